/-
  Own texts, merged: NumL Shelf WMore WCmp WMul DivM WDiv WDivN WDivW WRoot WClip PC FixK NumR NumT
-/
import Derived.Shelf.Strings.Builder1
import Derived.Shelf.Strings.Builder2
import Derived.Shelf.Strings.OnBuilder
import Derived.Shelf.Small.Bits
import Derived.Shelf.Small.Wraps
import Derived.Shelf.Strings.BuilderF
import Derived.Shelf.Strconv.Itoa0
import Derived.Shelf.Strconv.Itoa1
import Derived.Shelf.LaysM
import Derived.Shelf.Strconv.Itoa2
import Derived.Shelf.Strconv.Itoa3
import Derived.Shelf.Strconv.Itoa4
import Derived.Shelf.Strings.Search1
import Derived.Shelf.Strings.Search2
import Derived.Shelf.Strings.Search3
import Derived.Shelf.Strings.Count
import Derived.Shelf.Strings.Shaped
import Derived.Shelf.Strings.Prefix
import Derived.Shelf.Strings.Split
import Derived.Shelf.Strings.SplitShaped
import Derived.Shelf.Bits.Mul64
import Derived.Shelf.Strings.Repeat
import Derived.Shelf.Unicode.DecodeSlow
import Derived.Test.YtfjfmcnnakfjnaaDoorProg
import Derived.Test.YtfjfmcnnakfjnaaDoorQ2


/-
  Rows of pieces of 16 bits, the lowest first: what they stand for; sums, products. No program is named here.
-/

namespace Go.Proofs.YtfjfmcnnakfjnaaDoor

open Go.Den
noncomputable section

def val : List Int → Int
  | [] => 0
  | x :: r => x + 65536 * val r
def Pcs (l : List Int) : Prop := ∀ x ∈ l, 0 ≤ x ∧ x ≤ 65535
theorem Pcs.head {x : Int} {l : List Int} (h : Pcs (x :: l)) : 0 ≤ x ∧ x ≤ 65535 := h x (by simp)
theorem Pcs.tail {x : Int} {l : List Int} (h : Pcs (x :: l)) : Pcs l := fun y hy => h y (by simp [hy])
theorem Pcs.cons {x : Int} {l : List Int} (h : 0 ≤ x ∧ x ≤ 65535) (t : Pcs l) : Pcs (x :: l) := fun y hy => by
  rcases List.mem_cons.1 hy with rfl | hy
  · exact h
  · exact t y hy
theorem Pcs.nil : Pcs [] := fun _ h => by cases h
/-- The pieces of a number. -/
def digsN (k : Nat) : Int → List Int := Nat.rec (motive := fun _ => Int → List Int) (fun _ => []) (fun _ ih n => n % 65536 :: ih (n / 65536)) k
theorem digsN_s (k : Nat) (n : Int) : digsN (k + 1) n = n % 65536 :: digsN k (n / 65536) := rfl
def B16 (k : Nat) : Int := 65536 ^ k
theorem B16_s (k : Nat) : B16 (k + 1) = 65536 * B16 k := by unfold B16; rw [Int.pow_succ, Int.mul_comm]
theorem B16_0 : B16 0 = 1 := rfl
theorem B16_pos : ∀ k, 0 < B16 k
  | 0 => by rw [B16_0]; omega
  | k + 1 => by have := B16_pos k; rw [B16_s]; omega
theorem val_bd : ∀ {l : List Int}, Pcs l → 0 ≤ val l ∧ val l < B16 l.length
  | [], _ => by simp [val, B16]
  | x :: r, h => by
    have h1 := val_bd h.tail
    have h2 := h.head
    simp only [val, List.length_cons, B16_s]; omega
theorem digsN_len : ∀ (k : Nat) (n : Int), (digsN k n).length = k
  | 0, _ => rfl
  | k + 1, n => by rw [digsN_s, List.length_cons, digsN_len k]
theorem digsN_pcs : ∀ (k : Nat) (n : Int), Pcs (digsN k n)
  | 0, _ => .nil
  | k + 1, n => by rw [digsN_s]; exact .cons (by omega) (digsN_pcs k _)
theorem val_digsN : ∀ (k : Nat) (n : Int), 0 ≤ n → n < B16 k → val (digsN k n) = n
  | 0, n, h0, h1 => by rw [B16_0] at h1; show (0 : Int) = n; omega
  | k + 1, n, h0, h1 => by
    rw [B16_s] at h1
    rw [digsN_s, val, val_digsN k (n / 65536) (by omega) (by omega)]; omega
theorem digsN_val : ∀ {l : List Int}, Pcs l → digsN l.length (val l) = l
  | [], _ => rfl
  | x :: r, h => by
    have h2 := h.head
    rw [List.length_cons, digsN_s, val, show (x + 65536 * val r) % 65536 = x by omega, show (x + 65536 * val r) / 65536 = val r by omega, digsN_val h.tail]
def mapU (l : List Int) : List Value := List.rec (motive := fun _ => List Value) [] (fun x _ ih => Value.int .u64 x :: ih) l
def intV (v : Value) : Int :=
  match v with
  | .int _ n => n
  | _ => 0
def ints (r : List Value) : List Int := List.rec (motive := fun _ => List Int) [] (fun v _ ih => intV v :: ih) r
theorem ints_mapU : ∀ l : List Int, ints (mapU l) = l
  | [] => rfl
  | x :: r => by show x :: ints (mapU r) = x :: r; rw [ints_mapU r]
def okD (v : Value) : Bool :=
  match v with
  | .int .u64 n => decide (0 ≤ n) && decide (n ≤ 65535)
  | _ => false
def okNum (r : List Value) : Bool := Nat.beq r.length 20 && r.all okD
theorem okNum_out {r : List Value} (h : okNum r = true) : ∃ l, r = mapU l ∧ l.length = 20 ∧ Pcs l := by
  have key : ∀ r : List Value, r.all okD = true → ∃ l, r = mapU l ∧ l.length = r.length ∧ Pcs l := by
    intro r
    induction r with
    | nil => intro _; exact ⟨[], rfl, rfl, .nil⟩
    | cons v r ih =>
      intro h
      rw [List.all_cons, Bool.and_eq_true] at h
      obtain ⟨l, rfl, hl, hp⟩ := ih h.2
      have hv := h.1
      unfold okD at hv
      split at hv
      · rename_i n
        rw [Bool.and_eq_true, decide_eq_true_eq, decide_eq_true_eq] at hv
        exact ⟨n :: l, rfl, by rw [List.length_cons, List.length_cons, hl], .cons hv hp⟩
      · cases hv
  unfold okNum at h
  rw [Bool.and_eq_true, Nat.beq_eq] at h
  obtain ⟨l, e, hl, hp⟩ := key r h.2
  exact ⟨l, e, by omega, hp⟩
theorem mapU_len : ∀ l : List Int, (mapU l).length = l.length
  | [] => rfl
  | x :: r => by show (mapU r).length + 1 = r.length + 1; rw [mapU_len r]
theorem okNum_in {l : List Int} (h : l.length = 20) (p : Pcs l) : okNum (mapU l) = true := by
  unfold okNum
  rw [mapU_len, h, Bool.and_eq_true]
  refine ⟨rfl, ?_⟩
  clear h
  induction l with
  | nil => rfl
  | cons x r ih =>
    show (okD (.int .u64 x) && (mapU r).all okD) = true
    rw [ih p.tail, Bool.and_true]
    have := p.head
    simp only [okD, Bool.and_eq_true, decide_eq_true_eq]; exact this
def mag (r : List Value) : Int := val (ints r)
theorem mag_mapU (l : List Int) : mag (mapU l) = val l := by unfold mag; rw [ints_mapU]
/-- A number of the document: a sign, a size. -/
def nv (s : Bool) (n : Int) : Value := .agg ⟨.bool s :: mapU (digsN 20 n)⟩
def T320 : Int := 2135987035920910082395021706169552114602704522356652769947041607822219725780640550022962086936576
theorem T320_eq : B16 20 = T320 := by unfold T320 B16; rfl
theorem mag_nv {n : Int} (h0 : 0 ≤ n) (h1 : n < T320) : mag (mapU (digsN 20 n)) = n := by
  rw [mag_mapU]; exact val_digsN 20 n h0 (by rw [T320_eq]; exact h1)
theorem ok_nv (n : Int) : okNum (mapU (digsN 20 n)) = true := okNum_in (digsN_len _ _) (digsN_pcs _ _)
theorem nv_of {s : Bool} {l : List Int} {n : Int} (h : l.length = 20) (p : Pcs l) (e : val l = n) : Value.agg ⟨.bool s :: mapU l⟩ = nv s n := by
  unfold nv; rw [← e, ← h, digsN_val p]
theorem mag_bd {r : List Value} (h : okNum r = true) : 0 ≤ mag r ∧ mag r < T320 := by
  obtain ⟨l, rfl, hl, hp⟩ := okNum_out h
  rw [mag_mapU, ← T320_eq, ← hl]; exact val_bd hp
theorem nv_mag {s : Bool} {r : List Value} (h : okNum r = true) : Value.agg ⟨.bool s :: r⟩ = nv s (mag r) := by
  obtain ⟨l, rfl, hl, hp⟩ := okNum_out h
  rw [mag_mapU]; exact nv_of hl hp rfl

theorem w64 {n : Int} (h0 : 0 ≤ n) (h1 : n ≤ 18446744073709551615) : IntKind.wrap .u64 n = n := by rw [IntKind.wrap_u64]; omega
theorem td {o : Int} (h0 : 0 ≤ o) : Int.tdiv o 65536 = o / 65536 := Int.tdiv_eq_ediv_of_nonneg h0
theorem tm {o : Int} (h0 : 0 ≤ o) : Int.tmod o 65536 = o % 65536 := Int.tmod_eq_emod_of_nonneg h0
/-- A sum of two sizes, the last piece of the second left out. -/
def addGo (xs : List Int) : Int → List Int → List Int :=
  List.rec (motive := fun _ => Int → List Int → List Int) (fun o _ => [o]) (fun x _ ih o ys => List.casesOn (motive := fun _ => List Int) ys [o] (fun y ys =>
    Int.tmod (IntKind.wrap .u64 (o + y)) 65536 :: ih (IntKind.wrap .u64 (x + IntKind.wrap .u64 (Int.tdiv (IntKind.wrap .u64 (o + y)) 65536))) ys)) xs
theorem addGo_nil (o : Int) (ys : List Int) : addGo [] o ys = [o] := rfl
theorem addGo_cons (x : Int) (xs : List Int) (o y : Int) (ys : List Int) : addGo (x :: xs) o (y :: ys) =
    Int.tmod (IntKind.wrap .u64 (o + y)) 65536 :: addGo xs (IntKind.wrap .u64 (x + IntKind.wrap .u64 (Int.tdiv (IntKind.wrap .u64 (o + y)) 65536))) ys := rfl
theorem one_pcs {o : Int} (h : 0 ≤ o ∧ o ≤ 65535) : Pcs [o] := Pcs.cons h Pcs.nil
theorem val_one (o : Int) : val [o] = o := by rw [val, val]; omega
theorem B16_1 : B16 1 = 65536 := by rw [B16_s, B16_0, Int.mul_one]
theorem addGo_ok (xs : List Int) : ∀ (o : Int) (ys : List Int), Pcs xs → Pcs ys → xs.length ≤ ys.length → 0 ≤ o → o ≤ 65536 → o + 65536 * val xs + val (ys.take xs.length) < B16 (xs.length + 1) →
    Pcs (addGo xs o ys) ∧ (addGo xs o ys).length = xs.length + 1 ∧ val (addGo xs o ys) = o + 65536 * val xs + val (ys.take xs.length) := by
  induction xs with
  | nil =>
    intro o ys _ _ _ h0 _ h2
    rw [List.length_nil, Nat.zero_add, B16_1, List.take_zero, val] at h2
    rw [addGo_nil, List.length_nil, List.take_zero, val, val_one]
    exact ⟨one_pcs (by omega), rfl, by omega⟩
  | cons x xs ih =>
    intro o ys px py hl h0 h1 h2
    cases ys with
    | nil => simp at hl
    | cons y ys =>
      have hx := px.head; have hy := py.head
      have e1 : IntKind.wrap .u64 (o + y) = o + y := w64 (by omega) (by omega)
      have e2 : IntKind.wrap .u64 (Int.tdiv (o + y) 65536) = (o + y) / 65536 := by rw [td (by omega)]; exact w64 (by omega) (by omega)
      have e3 : IntKind.wrap .u64 (x + (o + y) / 65536) = x + (o + y) / 65536 := w64 (by omega) (by omega)
      rw [List.length_cons, List.take_succ_cons, val, val, B16_s] at h2
      rw [List.length_cons, List.length_cons] at hl
      obtain ⟨i1, i2, i3⟩ := ih (x + (o + y) / 65536) ys px.tail py.tail (by omega) (by omega) (by omega) (by omega)
      rw [addGo_cons, e1, e2, e3, tm (by omega)]
      refine ⟨.cons (by omega) i1, by rw [List.length_cons, i2, List.length_cons], ?_⟩
      rw [val, i3, List.length_cons, List.take_succ_cons, val, val]; omega
/-- A difference of two sizes, the first not the less. -/
def subGo (xs : List Int) : List Int → Int → List Int :=
  List.rec (motive := fun _ => List Int → Int → List Int) (fun _ _ => []) (fun x _ ih ys b => List.casesOn (motive := fun _ => List Int) ys [] (fun y ys =>
    Int.tmod (IntKind.wrap .u64 (IntKind.wrap .u64 (IntKind.wrap .u64 (x + 65536) - y) - b)) 65536 ::
      ih ys (IntKind.wrap .u64 (1 - IntKind.wrap .u64 (Int.tdiv (IntKind.wrap .u64 (IntKind.wrap .u64 (IntKind.wrap .u64 (x + 65536) - y) - b)) 65536))))) xs
theorem subGo_ok : ∀ (xs ys : List Int) (b : Int), Pcs xs → Pcs ys → xs.length = ys.length → 0 ≤ b → b ≤ 1 → 0 ≤ val xs - val ys - b →
    Pcs (subGo xs ys b) ∧ (subGo xs ys b).length = xs.length ∧ val (subGo xs ys b) = val xs - val ys - b
  | [], [], b, _, _, _, h0, h1, h2 => by
    simp only [val] at h2
    show Pcs [] ∧ 0 = 0 ∧ val [] = _
    refine ⟨.nil, rfl, ?_⟩
    simp only [val]; omega
  | [], y :: ys, b, _, _, hl, _, _, _ => by simp at hl
  | x :: xs, [], b, _, _, hl, _, _, _ => by simp at hl
  | x :: xs, y :: ys, b, px, py, hl, h0, h1, h2 => by
    have hx := px.head; have hy := py.head
    have e1 : IntKind.wrap .u64 (IntKind.wrap .u64 (IntKind.wrap .u64 (x + 65536) - y) - b) = x + 65536 - y - b := by
      rw [w64 (n := x + 65536) (by omega) (by omega), w64 (n := x + 65536 - y) (by omega) (by omega)]; exact w64 (by omega) (by omega)
    have e2 : IntKind.wrap .u64 (1 - IntKind.wrap .u64 (Int.tdiv (x + 65536 - y - b) 65536)) = 1 - (x + 65536 - y - b) / 65536 := by
      rw [td (by omega), w64 (n := (x + 65536 - y - b) / 65536) (by omega) (by omega)]; exact w64 (by omega) (by omega)
    have eq : subGo (x :: xs) (y :: ys) b = (x + 65536 - y - b) % 65536 :: subGo xs ys (1 - (x + 65536 - y - b) / 65536) := by
      show Int.tmod (IntKind.wrap .u64 (IntKind.wrap .u64 (IntKind.wrap .u64 (x + 65536) - y) - b)) 65536 ::
        subGo xs ys (IntKind.wrap .u64 (1 - IntKind.wrap .u64 (Int.tdiv (IntKind.wrap .u64 (IntKind.wrap .u64 (IntKind.wrap .u64 (x + 65536) - y) - b)) 65536))) = _
      rw [e1, e2, tm (by omega)]
    simp only [List.length_cons, val] at h2 hl ⊢
    obtain ⟨i1, i2, i3⟩ := subGo_ok xs ys (1 - (x + 65536 - y - b) / 65536) px.tail py.tail (by omega) (by omega) (by omega) (by omega)
    rw [eq]
    refine ⟨.cons (by omega) i1, by rw [List.length_cons, i2], ?_⟩
    rw [val, i3]; omega
/-- A row, and a piece's products with another row on it. -/
def addRow (x : Int) (os : List Int) : List Int → List Int :=
  List.rec (motive := fun _ => List Int → List Int) (fun _ => []) (fun o os ih ys => List.casesOn (motive := fun _ => List Int) ys (o :: os) (fun y ys => IntKind.wrap .u64 (o + IntKind.wrap .u64 (x * y)) :: ih ys)) os
def mrow (x : Int) (i : Nat) : List Int → List Int → List Int :=
  Nat.rec (motive := fun _ => List Int → List Int → List Int) (fun os ys => addRow x os ys) (fun _ ih os ys => List.casesOn (motive := fun _ => List Int) os [] fun o os => o :: ih os ys) i
def carryGo (r : List Int) : Int → List Int :=
  List.rec (motive := fun _ => Int → List Int) (fun o => [o]) (fun p _ ih o => Int.tmod o 65536 :: ih (IntKind.wrap .u64 (p + IntKind.wrap .u64 (Int.tdiv o 65536)))) r
def carry (os : List Int) : List Int := List.casesOn (motive := fun _ => List Int) os [] fun o r => carryGo r o
def mulGo (b : List Int) (xs : List Int) : Nat → List Int → List Int :=
  List.rec (motive := fun _ => Nat → List Int → List Int) (fun _ os => os) (fun x _ ih i os => ih (i + 1) (carry (mrow x i os b))) xs
/-- Pieces on the way: not above 2^33. -/
def Big (l : List Int) : Prop := ∀ x ∈ l, 0 ≤ x ∧ x ≤ 8589934592
theorem Big.head {x : Int} {l : List Int} (h : Big (x :: l)) : 0 ≤ x ∧ x ≤ 8589934592 := h x (by simp)
theorem Big.tail {x : Int} {l : List Int} (h : Big (x :: l)) : Big l := fun y hy => h y (by simp [hy])
theorem Big.cons {x : Int} {l : List Int} (h : 0 ≤ x ∧ x ≤ 8589934592) (t : Big l) : Big (x :: l) := fun y hy => by
  rcases List.mem_cons.1 hy with rfl | hy
  · exact h
  · exact t y hy
theorem Pcs.big {l : List Int} (h : Pcs l) : Big l := fun x hx => by have := h x hx; omega
theorem addRow_ok {x : Int} (hx : 0 ≤ x ∧ x ≤ 65535) : ∀ (os ys : List Int), Pcs os → Pcs ys → os.length ≤ ys.length →
    Big (addRow x os ys) ∧ (addRow x os ys).length = os.length ∧ val (addRow x os ys) = val os + x * val (ys.take os.length)
  | [], ys, _, _, _ => by
    refine ⟨fun _ h => (by cases h), rfl, ?_⟩
    rw [List.length_nil, List.take_zero]
    show (0 : Int) = 0 + x * 0
    omega
  | o :: os, [], _, _, hl => by simp at hl
  | o :: os, y :: ys, po, py, hl => by
    have ho := po.head; have hy := py.head
    have p0 : 0 ≤ x * y := Int.mul_nonneg hx.1 hy.1
    have p1 : x * y ≤ 65535 * 65535 := Int.mul_le_mul hx.2 hy.2 hy.1 (by omega)
    have e : IntKind.wrap .u64 (o + IntKind.wrap .u64 (x * y)) = o + x * y := by
      rw [w64 (n := x * y) p0 (by omega)]; exact w64 (by omega) (by omega)
    have eq : addRow x (o :: os) (y :: ys) = (o + x * y) :: addRow x os ys := by
      show IntKind.wrap .u64 (o + IntKind.wrap .u64 (x * y)) :: addRow x os ys = _
      rw [e]
    simp only [List.length_cons] at hl
    obtain ⟨i1, i2, i3⟩ := addRow_ok hx os ys po.tail py.tail (by omega)
    rw [eq]
    refine ⟨.cons (by omega) i1, by rw [List.length_cons, i2, List.length_cons], ?_⟩
    rw [val, i3, List.length_cons, List.take_succ_cons, val, val, Int.mul_add x y, Int.mul_left_comm x 65536]; omega
theorem mrow_ok {x : Int} (hx : 0 ≤ x ∧ x ≤ 65535) : ∀ (i : Nat) (os ys : List Int), Pcs os → Pcs ys → os.length ≤ ys.length + i → i ≤ os.length →
    Big (mrow x i os ys) ∧ (mrow x i os ys).length = os.length ∧ val (mrow x i os ys) = val os + B16 i * (x * val (ys.take (os.length - i)))
  | 0, os, ys, po, py, hl, _ => by
    obtain ⟨i1, i2, i3⟩ := addRow_ok hx os ys po py (by omega)
    refine ⟨i1, i2, ?_⟩
    show val (addRow x os ys) = _
    rw [i3, B16_0, Int.one_mul, Nat.sub_zero]
  | i + 1, [], ys, _, _, _, hi => by simp at hi
  | i + 1, o :: os, ys, po, py, hl, hi => by
    simp only [List.length_cons] at hl hi
    obtain ⟨i1, i2, i3⟩ := mrow_ok hx i os ys po.tail py (by omega) (by omega)
    have ho := po.head
    show Big (o :: mrow x i os ys) ∧ (o :: mrow x i os ys).length = _ ∧ val (o :: mrow x i os ys) = _
    refine ⟨.cons (by omega) i1, by rw [List.length_cons, i2, List.length_cons], ?_⟩
    rw [val, i3, List.length_cons, val, B16_s, Nat.add_sub_add_right, Int.mul_add, Int.mul_assoc]; omega
theorem carryGo_nil (o : Int) : carryGo [] o = [o] := rfl
theorem carryGo_cons (p : Int) (r : List Int) (o : Int) : carryGo (p :: r) o = Int.tmod o 65536 :: carryGo r (IntKind.wrap .u64 (p + IntKind.wrap .u64 (Int.tdiv o 65536))) := rfl
theorem carryGo_ok (r : List Int) : ∀ (o : Int), Big r → 0 ≤ o → o ≤ 8590196736 → o + 65536 * val r < B16 (r.length + 1) →
    Pcs (carryGo r o) ∧ (carryGo r o).length = r.length + 1 ∧ val (carryGo r o) = o + 65536 * val r := by
  induction r with
  | nil =>
    intro o _ h0 _ h2
    rw [List.length_nil, Nat.zero_add, B16_1, val] at h2
    rw [carryGo_nil, List.length_nil, val, val_one]
    exact ⟨one_pcs (by omega), rfl, by omega⟩
  | cons p r ih =>
    intro o hb h0 h1 h2
    have hp := hb.head
    have e1 : IntKind.wrap .u64 (p + IntKind.wrap .u64 (Int.tdiv o 65536)) = p + o / 65536 := by
      rw [td h0, w64 (n := o / 65536) (by omega) (by omega)]; exact w64 (by omega) (by omega)
    rw [List.length_cons, val, B16_s] at h2
    obtain ⟨i1, i2, i3⟩ := ih (p + o / 65536) hb.tail (by omega) (by omega) (by omega)
    rw [carryGo_cons, e1, tm h0]
    refine ⟨.cons (by omega) i1, by rw [List.length_cons, i2, List.length_cons], ?_⟩
    rw [val, i3, val]; omega
theorem carry_ok {os : List Int} (hb : Big os) (hl : os.length = 20) (h : val os < T320) : Pcs (carry os) ∧ (carry os).length = 20 ∧ val (carry os) = val os := by
  cases os with
  | nil => simp at hl
  | cons o r =>
    simp only [List.length_cons] at hl
    have ho := hb.head
    have hr : r.length + 1 = 20 := hl
    rw [← T320_eq, ← hr] at h
    obtain ⟨i1, i2, i3⟩ := carryGo_ok r o hb.tail ho.1 (by omega) h
    exact ⟨i1, by rw [← hr]; exact i2, i3⟩
theorem val_take : ∀ (l : List Int) (k : Nat), Pcs l → val l < B16 k → val (l.take k) = val l
  | [], k, _, _ => by rw [List.take_nil]
  | x :: r, 0, h, h1 => by
    rw [B16_0] at h1
    have := (val_bd h).1
    rw [List.take_zero]; show (0 : Int) = _; omega
  | x :: r, k + 1, h, h1 => by
    have hx := h.head
    rw [val, B16_s] at h1
    rw [List.take_succ_cons, val, val, val_take r k h.tail (by omega)]
theorem mul_gap {x v : Int} {i : Nat} (hi : i ≤ 20) (hx : 0 ≤ x) (hv : 0 ≤ v) (h : B16 i * (x * v) < B16 20) (h0 : x ≠ 0) : v < B16 (20 - i) := by
  have e : B16 20 = B16 i * B16 (20 - i) := by unfold B16; rw [← Int.pow_add]; congr 1; omega
  rw [e] at h
  have h2 := Int.lt_of_mul_lt_mul_left h (Int.le_of_lt (B16_pos i))
  have h3 : 1 * v ≤ x * v := Int.mul_le_mul_of_nonneg_right (by omega) hv
  omega
theorem mulGo_ok {ys : List Int} (py : Pcs ys) (ly : ys.length = 20) : ∀ (xs : List Int) (i : Nat) (os : List Int), Pcs xs → Pcs os → os.length = 20 → xs.length + i = 20 → val os + B16 i * (val xs * val ys) < T320 →
    Pcs (mulGo ys xs i os) ∧ (mulGo ys xs i os).length = 20 ∧ val (mulGo ys xs i os) = val os + B16 i * (val xs * val ys)
  | [], i, os, _, po, lo, _, _ => by
    refine ⟨po, lo, ?_⟩
    show val os = val os + B16 i * (0 * val ys)
    rw [Int.zero_mul, Int.mul_zero, Int.add_zero]
  | x :: xs, i, os, px, po, lo, li, hb => by
    have hx := px.head
    have hy := (val_bd py).1
    have hxs := (val_bd px.tail).1
    have hos := (val_bd po).1
    simp only [List.length_cons] at li
    have e0 : B16 i * (val (x :: xs) * val ys) = B16 i * (x * val ys) + B16 (i + 1) * (val xs * val ys) := by
      rw [val, B16_s, Int.add_mul, Int.mul_add, Int.mul_assoc 65536 (val xs), Int.mul_left_comm (B16 i) 65536, Int.mul_assoc 65536 (B16 i)]
    have n1 : 0 ≤ B16 i * (x * val ys) := Int.mul_nonneg (Int.le_of_lt (B16_pos i)) (Int.mul_nonneg hx.1 hy)
    have n2 : 0 ≤ B16 (i + 1) * (val xs * val ys) := Int.mul_nonneg (Int.le_of_lt (B16_pos _)) (Int.mul_nonneg hxs hy)
    rw [e0] at hb ⊢
    obtain ⟨i1, i2, i3⟩ := mrow_ok hx i os ys po py (by omega) (by omega)
    have e1 : x * val (ys.take (os.length - i)) = x * val ys := by
      by_cases hz : x = 0
      · rw [hz, Int.zero_mul, Int.zero_mul]
      · rw [lo, val_take ys (20 - i) py (mul_gap (by omega) hx.1 hy (by rw [T320_eq]; omega) hz)]
    rw [e1] at i3
    obtain ⟨j1, j2, j3⟩ := carry_ok i1 (by rw [i2, lo]) (by rw [i3]; omega)
    obtain ⟨k1, k2, k3⟩ := mulGo_ok py ly xs (i + 1) (carry (mrow x i os ys)) px.tail j1 j2 (by omega) (by rw [j3, i3]; omega)
    refine ⟨k1, k2, ?_⟩
    show val (mulGo ys xs (i + 1) (carry (mrow x i os ys))) = _
    rw [k3, j3, i3]; omega
/-- The rows from the top: which is the greater one. -/
def sizeP (xs : List Int) : List Int → (Int → Prop) → Prop :=
  List.rec (motive := fun _ => List Int → (Int → Prop) → Prop) (fun _ Q => Q 0) (fun x _ ih ys Q => List.casesOn (motive := fun _ => Prop) ys (Q 0) fun y ys => bcase (decide (x < y)) (Q (-1)) (bcase (decide (x > y)) (Q 1) (ih ys Q))) xs
def zeroP (xs : List Int) : (Bool → Prop) → Prop :=
  List.rec (motive := fun _ => (Bool → Prop) → Prop) (fun Q => Q true) (fun x _ ih Q => bcase (decide (x > 0)) (Q false) (ih Q)) xs
end

end Go.Proofs.YtfjfmcnnakfjnaaDoor

/-
  DERIVED: THE SHELF's CONTRACTS AT THIS DUMP, IN PLAIN WORDS (tools/lay-plain.mjs out of 'TrydShelf.lean', which tools/lay-shelf.mjs wrote): THE SAME DECLARATIONS UNDER THE SAME NAMES: 'import', 'namespace', 'open', 'def', 'theorem' AND NOTHING ELSE: no command of the shelf's: FOR A HAND-IN. Each laying: the table of numbers ('.._ren') and one theorem, a field a fact of the dump's own or the kernel's comparison; each contract: ONE APPLICATION.
-/
namespace Go.Proofs
open Go.Shelf
def Tryd.lays170_ren : Go.Shelf.Ren := ⟨fun | 170 => 61 | n => n, fun | 70 => 78 | 3 => 3 | 0 => 0 | 72 => 80 | 37 => 51 | 5 => 5 | n => n, fun | n => n⟩
theorem Tryd.lays170 : Go.Proofs.Lays.n170 Tryd.prog Tryd.lays170_ren := {
  mixed := by kernel_rfl
  f170 := Tryd.func61.trans (congrArg some (by kernel_rfl))
  t0 := Tryd.underlying0
  a0 := Tryd.isAgg0
  z0 := Tryd.sizeOf0
  v0 := Tryd.zeroValue0
  t3 := Tryd.underlying3
  a3 := Tryd.isAgg3
  z3 := Tryd.sizeOf3
  v3 := Tryd.zeroValue3
  t37 := Tryd.underlying51
  a37 := Tryd.isAgg51
  z37 := Tryd.sizeOf51
  v37 := Tryd.zeroValue51
  t70 := Tryd.underlying78
  a70 := Tryd.isAgg78
  z70 := Tryd.sizeOf78
  v70 := Tryd.zeroValue78
  t72 := Tryd.underlying80
  a72 := Tryd.isAgg80
  z72 := Tryd.sizeOf80
  v72 := Tryd.zeroValue80 }
open Go.RowKit in
/-- (*strings.Builder).Len: "Len returns the number of accumulated bytes; b.Len() == len(b.String()).": the world is as it was. (LAID: no walk: one application.) -/
theorem Tryd.Builder_Len (B b : Nat) (bs : List Value) (w : World) (h : Lib.IsBuilder 80 5 B b bs w) :
    Calls Tryd.prog 61 #[.pointer (some ⟨b, 0, none⟩)] w fun e w' => e = .returned (.int .i64 bs.length) ∧ w' = w := Any.Builder_Len Tryd.lays170 B b bs w h
def Tryd.lays169_ren : Go.Shelf.Ren := ⟨fun | 169 => 47 | n => n, fun | 70 => 78 | 9 => 9 | 0 => 0 | 72 => 80 | 37 => 51 | 127 => 102 | 3 => 3 | 5 => 5 | n => n, fun | n => n⟩
theorem Tryd.lays169 : Go.Proofs.Lays.n169 Tryd.prog Tryd.lays169_ren := {
  mixed := by kernel_rfl
  f169 := Tryd.func47.trans (congrArg some (by kernel_rfl))
  t0 := Tryd.underlying0
  a0 := Tryd.isAgg0
  z0 := Tryd.sizeOf0
  v0 := Tryd.zeroValue0
  t3 := Tryd.underlying3
  a3 := Tryd.isAgg3
  z3 := Tryd.sizeOf3
  v3 := Tryd.zeroValue3
  t9 := Tryd.underlying9
  a9 := Tryd.isAgg9
  z9 := Tryd.sizeOf9
  v9 := Tryd.zeroValue9
  t37 := Tryd.underlying51
  a37 := Tryd.isAgg51
  z37 := Tryd.sizeOf51
  v37 := Tryd.zeroValue51
  t70 := Tryd.underlying78
  a70 := Tryd.isAgg78
  z70 := Tryd.sizeOf78
  v70 := Tryd.zeroValue78
  t72 := Tryd.underlying80
  a72 := Tryd.isAgg80
  z72 := Tryd.sizeOf80
  v72 := Tryd.zeroValue80
  t127 := Tryd.underlying102
  a127 := Tryd.isAgg102
  z127 := Tryd.sizeOf102
  v127 := Tryd.zeroValue102 }
theorem Tryd.Builder_Extra_169 : Builder.Extra Tryd.prog Tryd.lays169_ren := {
  sizeBuilder := by kernel_rfl
  liesBuilder := by kernel_rfl
  t5 := Tryd.underlying5
  a5 := Tryd.isAgg5
  z5 := Tryd.sizeOf5
  v5 := Tryd.zeroValue5
  infoByte := by kernel_rfl
  cellsByte := by kernel_rfl
  sizeByte := by kernel_rfl
  neB5 := by decide }
open Go.RowKit in
/-- (*strings.Builder).String: "String returns the accumulated string.": OF A BUILDER THAT HOLDS AT LEAST ONE BYTE. ✋ THE MODEL FREEZES THOSE BYTES IN THE BUFFER (unsafe.String): a later write INTO them ends the model's run without an answer; a later append BEHIND them goes on. The statement's order of evaluation is drawn: one draw. (LAID: no walk: one application.) -/
theorem Tryd.Builder_String (B b : Nat) (l : List UInt8) (w : World) (h : Lib.IsBuilder 80 5 B b (Lib.byteCells l) w) (h0 : l ≠ []) :
    Calls Tryd.prog 47 #[.pointer (some ⟨b, 0, none⟩)] w fun e w' => e = .returned (.string ⟨l.toArray⟩) ∧ Below B w w' := Any.Builder_String Tryd.lays169 Tryd.Builder_Extra_169 B b l w h h0
open Go.RowKit in
/-- (*strings.Builder).String OF A BUILDER THAT HOLDS NO BYTE: the empty string. (Its buffer is nil, or a row of which it has taken nothing yet; where that row has NO capacity the model lays one new block for unsafe.SliceData's 'some address'.) One draw. (LAID: no walk: one application.) -/
theorem Tryd.Builder_String_empty (B b : Nat) (w : World) (h : Lib.IsBuilder 80 5 B b [] w) (hBw : B ≤ w.heap.size) :
    Calls Tryd.prog 47 #[.pointer (some ⟨b, 0, none⟩)] w fun e w' => e = .returned (.string ⟨#[]⟩) ∧ Below B w w' := Any.Builder_String_empty Tryd.lays169 Tryd.Builder_Extra_169 B b w h hBw
open Go.RowKit in
/-- (*strings.Builder).String: "String returns the accumulated string.": WHATEVER THE BUILDER HOLDS. (LAID: no walk: one application.) -/
theorem Tryd.Builder_String_any (B b : Nat) (l : List UInt8) (w : World) (h : Lib.IsBuilder 80 5 B b (Lib.byteCells l) w) (hBw : B ≤ w.heap.size) :
    Calls Tryd.prog 47 #[.pointer (some ⟨b, 0, none⟩)] w fun e w' => e = .returned (.string ⟨l.toArray⟩) ∧ Below B w w' := Any.Builder_String_any Tryd.lays169 Tryd.Builder_Extra_169 B b l w h hBw
def Tryd.lays241_ren : Go.Shelf.Ren := ⟨fun | 241 => 66 | 277 => 80 | n => n, fun | 70 => 78 | 3 => 3 | 0 => 0 | 72 => 80 | 37 => 51 | 5 => 5 | n => n, fun | n => n⟩
theorem Tryd.lays241 : Go.Proofs.Lays.n241 Tryd.prog Tryd.lays241_ren := {
  mixed := by kernel_rfl
  f241 := Tryd.func66.trans (congrArg some (by kernel_rfl))
  f277 := Tryd.func80.trans (congrArg some (by kernel_rfl))
  t0 := Tryd.underlying0
  a0 := Tryd.isAgg0
  z0 := Tryd.sizeOf0
  v0 := Tryd.zeroValue0
  t3 := Tryd.underlying3
  a3 := Tryd.isAgg3
  z3 := Tryd.sizeOf3
  v3 := Tryd.zeroValue3
  t37 := Tryd.underlying51
  a37 := Tryd.isAgg51
  z37 := Tryd.sizeOf51
  v37 := Tryd.zeroValue51
  t70 := Tryd.underlying78
  a70 := Tryd.isAgg78
  z70 := Tryd.sizeOf78
  v70 := Tryd.zeroValue78
  t72 := Tryd.underlying80
  a72 := Tryd.isAgg80
  z72 := Tryd.sizeOf80
  v72 := Tryd.zeroValue80 }
theorem Tryd.Builder_Extra_241 : Builder.Extra Tryd.prog Tryd.lays241_ren := {
  sizeBuilder := by kernel_rfl
  liesBuilder := by kernel_rfl
  t5 := Tryd.underlying5
  a5 := Tryd.isAgg5
  z5 := Tryd.sizeOf5
  v5 := Tryd.zeroValue5
  infoByte := by kernel_rfl
  cellsByte := by kernel_rfl
  sizeByte := by kernel_rfl
  neB5 := by decide }
open Go.RowKit in
/-- (*strings.Builder).grow (no doc but "grow copies the buffer to a new, larger buffer so that there are at least n bytes of capacity beyond len(b.buf)."): AT A BUILDER WITHOUT A BUFFER: a new row of whatever bytes for its buffer, none of them its own yet. Three draws. (LAID: no walk: one application.) -/
theorem Tryd.Builder_grow_fresh (B b n : Nat) (w : World) (hB : B ≤ b) (hbk : w.heap[b]? = some (.cells #[.pointer (some ⟨b, 0, none⟩), .slice none 0 0] 80 (0, 0))) (hBw : B ≤ w.heap.size) (hn : n ≤ 281474976710656) :
    Calls Tryd.prog 66 #[.pointer (some ⟨b, 0, none⟩), .int .i64 n] w fun e w' => e = .returned (.tuple #[]) ∧ (Lib.BuilderAt 80 5 B b (.pointer (some ⟨b, 0, none⟩)) [] w' ∧ Below B w w') := Any.Builder_grow_fresh Tryd.lays241 Tryd.Builder_Extra_241 B b n w hB hbk hBw hn
def Tryd.lays165_ren : Go.Shelf.Ren := ⟨fun | 165 => 45 | 240 => 65 | 241 => 66 | 276 => 79 | 277 => 80 | n => n, fun | 70 => 78 | 3 => 3 | 0 => 0 | 4 => 4 | 9 => 9 | 20 => 20 | 72 => 80 | 37 => 51 | 164 => 113 | 5 => 5 | n => n, fun | n => n⟩
theorem Tryd.lays165 : Go.Proofs.Lays.n165 Tryd.prog Tryd.lays165_ren := {
  mixed := by kernel_rfl
  f165 := Tryd.func45.trans (congrArg some (by kernel_rfl))
  f240 := Tryd.func65.trans (congrArg some (by kernel_rfl))
  f241 := Tryd.func66.trans (congrArg some (by kernel_rfl))
  f276 := Tryd.func79.trans (congrArg some (by kernel_rfl))
  f277 := Tryd.func80.trans (congrArg some (by kernel_rfl))
  t0 := Tryd.underlying0
  a0 := Tryd.isAgg0
  z0 := Tryd.sizeOf0
  v0 := Tryd.zeroValue0
  t3 := Tryd.underlying3
  a3 := Tryd.isAgg3
  z3 := Tryd.sizeOf3
  v3 := Tryd.zeroValue3
  t4 := Tryd.underlying4
  a4 := Tryd.isAgg4
  z4 := Tryd.sizeOf4
  v4 := Tryd.zeroValue4
  t9 := Tryd.underlying9
  a9 := Tryd.isAgg9
  z9 := Tryd.sizeOf9
  v9 := Tryd.zeroValue9
  t20 := Tryd.underlying20
  a20 := Tryd.isAgg20
  z20 := Tryd.sizeOf20
  v20 := Tryd.zeroValue20
  t37 := Tryd.underlying51
  a37 := Tryd.isAgg51
  z37 := Tryd.sizeOf51
  v37 := Tryd.zeroValue51
  t70 := Tryd.underlying78
  a70 := Tryd.isAgg78
  z70 := Tryd.sizeOf78
  v70 := Tryd.zeroValue78
  t72 := Tryd.underlying80
  a72 := Tryd.isAgg80
  z72 := Tryd.sizeOf80
  v72 := Tryd.zeroValue80
  t164 := Tryd.underlying113
  a164 := Tryd.isAgg113
  z164 := Tryd.sizeOf113
  v164 := Tryd.zeroValue113 }
theorem Tryd.Builder_Extra_165 : Builder.Extra Tryd.prog Tryd.lays165_ren := {
  sizeBuilder := by kernel_rfl
  liesBuilder := by kernel_rfl
  t5 := Tryd.underlying5
  a5 := Tryd.isAgg5
  z5 := Tryd.sizeOf5
  v5 := Tryd.zeroValue5
  infoByte := by kernel_rfl
  cellsByte := by kernel_rfl
  sizeByte := by kernel_rfl
  neB5 := by decide }
open Go.RowKit in
/-- (*strings.Builder).Grow AT A BUILDER THAT HAS NOT BEEN WRITTEN ('var b strings.Builder; b.Grow(n)'): "Grow grows b's capacity, if necessary, to guarantee space for another n bytes.": it holds no byte behind it as before it. (LAID: no walk: one application.) -/
theorem Tryd.Builder_Grow_fresh (B b n : Nat) (w : World) (hB : B ≤ b) (hbk : w.heap[b]? = some (.cells #[.pointer none, .slice none 0 0] 80 (0, 0))) (hBw : B ≤ w.heap.size) (hn : n ≤ 281474976710656) :
    Calls Tryd.prog 45 #[.pointer (some ⟨b, 0, none⟩), .int .i64 n] w fun e w' => e = .returned (.tuple #[]) ∧ (Lib.BuilderAt 80 5 B b (.pointer (some ⟨b, 0, none⟩)) [] w' ∧ Below B w w') := Any.Builder_Grow_fresh Tryd.lays165 Tryd.Builder_Extra_165 B b n w hB hbk hBw hn
def Tryd.lays156_ren : Go.Shelf.Ren := ⟨fun | 156 => 28 | 165 => 45 | 166 => 46 | 169 => 47 | 240 => 65 | 241 => 66 | 276 => 79 | 277 => 80 | n => n, fun | 31 => 32 | 9 => 9 | 3 => 3 | 4 => 4 | 0 => 0 | 20 => 20 | 72 => 80 | 76 => 84 | 70 => 78 | 37 => 51 | 75 => 83 | 127 => 102 | 164 => 113 | 5 => 5 | 80 => 86 | n => n, fun | n => n⟩
theorem Tryd.lays156 : Go.Proofs.Lays.n156 Tryd.prog Tryd.lays156_ren := {
  mixed := by kernel_rfl
  f156 := Tryd.func28.trans (congrArg some (by kernel_rfl))
  f165 := Tryd.func45.trans (congrArg some (by kernel_rfl))
  f166 := Tryd.func46.trans (congrArg some (by kernel_rfl))
  f169 := Tryd.func47.trans (congrArg some (by kernel_rfl))
  f240 := Tryd.func65.trans (congrArg some (by kernel_rfl))
  f241 := Tryd.func66.trans (congrArg some (by kernel_rfl))
  f276 := Tryd.func79.trans (congrArg some (by kernel_rfl))
  f277 := Tryd.func80.trans (congrArg some (by kernel_rfl))
  t0 := Tryd.underlying0
  a0 := Tryd.isAgg0
  z0 := Tryd.sizeOf0
  v0 := Tryd.zeroValue0
  t3 := Tryd.underlying3
  a3 := Tryd.isAgg3
  z3 := Tryd.sizeOf3
  v3 := Tryd.zeroValue3
  t4 := Tryd.underlying4
  a4 := Tryd.isAgg4
  z4 := Tryd.sizeOf4
  v4 := Tryd.zeroValue4
  t9 := Tryd.underlying9
  a9 := Tryd.isAgg9
  z9 := Tryd.sizeOf9
  v9 := Tryd.zeroValue9
  t20 := Tryd.underlying20
  a20 := Tryd.isAgg20
  z20 := Tryd.sizeOf20
  v20 := Tryd.zeroValue20
  t31 := Tryd.underlying32
  a31 := Tryd.isAgg32
  z31 := Tryd.sizeOf32
  v31 := Tryd.zeroValue32
  t37 := Tryd.underlying51
  a37 := Tryd.isAgg51
  z37 := Tryd.sizeOf51
  v37 := Tryd.zeroValue51
  t70 := Tryd.underlying78
  a70 := Tryd.isAgg78
  z70 := Tryd.sizeOf78
  v70 := Tryd.zeroValue78
  t72 := Tryd.underlying80
  a72 := Tryd.isAgg80
  z72 := Tryd.sizeOf80
  v72 := Tryd.zeroValue80
  t75 := Tryd.underlying83
  a75 := Tryd.isAgg83
  z75 := Tryd.sizeOf83
  v75 := Tryd.zeroValue83
  t76 := Tryd.underlying84
  a76 := Tryd.isAgg84
  z76 := Tryd.sizeOf84
  v76 := Tryd.zeroValue84
  t127 := Tryd.underlying102
  a127 := Tryd.isAgg102
  z127 := Tryd.sizeOf102
  v127 := Tryd.zeroValue102
  t164 := Tryd.underlying113
  a164 := Tryd.isAgg113
  z164 := Tryd.sizeOf113
  v164 := Tryd.zeroValue113 }
theorem Tryd.Builder_Extra_156 : Builder.Extra Tryd.prog Tryd.lays156_ren := {
  sizeBuilder := by kernel_rfl
  liesBuilder := by kernel_rfl
  t5 := Tryd.underlying5
  a5 := Tryd.isAgg5
  z5 := Tryd.sizeOf5
  v5 := Tryd.zeroValue5
  infoByte := by kernel_rfl
  cellsByte := by kernel_rfl
  sizeByte := by kernel_rfl
  neB5 := by decide }
open Go.RowKit in
/-- No element: the empty string; the world is as it was. (Whatever the slice's address and capacity: a nil slice too.) (LAID: no walk: one application.) -/
theorem Tryd.strings_Join_none (a : Option Addr) (c : Nat) (sep : ByteArray) (w : World) :
    Calls Tryd.prog 28 #[.slice a 0 c, .string sep] w fun e w' => e = .returned (.string ⟨#[]⟩) ∧ w' = w := Any.strings_Join_none Tryd.lays156 Tryd.Builder_Extra_156 a c sep w
open Go.RowKit in
/-- strings.Join: "Join concatenates the elements of its first argument to create a single string. The separator string sep is placed between elements in the resulting string.": HOWEVER MANY ELEMENTS. Below the heap's end the world is as it was. (LAID: no walk: one application.) -/
theorem Tryd.strings_Join (bk o c : Nat) (xs : List ByteArray) (sep : ByteArray) (w : World) (hcells : ∀ (j : Nat) x, xs[j]? = some x → w.cell? ⟨bk, o + j, none⟩ = some (.string x)) (hbk : bk < w.heap.size) (hN : xs.length ≤ 140737488355328) (hcap : xs.length ≤ c) (hlen : (Lib.join (xs.map (·.data.toList)) sep.data.toList).length ≤ 140737488355328) :
    Calls Tryd.prog 28 #[.slice (some ⟨bk, o, none⟩) xs.length c, .string sep] w fun e w' => e = .returned (.string ⟨(Lib.join (xs.map (·.data.toList)) sep.data.toList).toArray⟩) ∧ Below w.heap.size w w' := Any.strings_Join Tryd.lays156 Tryd.Builder_Extra_156 bk o c xs sep w hcells hbk hN hcap hlen
def Tryd.lays134_ren : Go.Shelf.Ren := ⟨fun | 134 => 73 | 129 => 86 | n => n, fun | 53 => 22 | 3 => 3 | 4 => 4 | 46 => 76 | 5 => 5 | 9 => 9 | n => n, fun | n => n⟩
theorem Tryd.lays134 : Go.Proofs.Lays.n134 Tryd.prog Tryd.lays134_ren := {
  mixed := by kernel_rfl
  f129 := Tryd.func86.trans (congrArg some (by kernel_rfl))
  f134 := Tryd.func73.trans (congrArg some (by kernel_rfl))
  t3 := Tryd.underlying3
  a3 := Tryd.isAgg3
  z3 := Tryd.sizeOf3
  v3 := Tryd.zeroValue3
  t4 := Tryd.underlying4
  a4 := Tryd.isAgg4
  z4 := Tryd.sizeOf4
  v4 := Tryd.zeroValue4
  t5 := Tryd.underlying5
  a5 := Tryd.isAgg5
  z5 := Tryd.sizeOf5
  v5 := Tryd.zeroValue5
  t9 := Tryd.underlying9
  a9 := Tryd.isAgg9
  z9 := Tryd.sizeOf9
  v9 := Tryd.zeroValue9
  t46 := Tryd.underlying76
  a46 := Tryd.isAgg76
  z46 := Tryd.sizeOf76
  v46 := Tryd.zeroValue76
  t53 := Tryd.underlying22
  a53 := Tryd.isAgg22
  z53 := Tryd.sizeOf22
  v53 := Tryd.zeroValue22 }
/-- bits.LeadingZeros64: "LeadingZeros64 returns the number of leading zero bits in x; the result is 64 for x == 0.": IT RETURNS '64 - Lib.bitLen x'; the world is as it was. ITS CALLEE bits.Len64 IS MET BY ITS OWN CONTRACT OFF THE SHELF (lay that first): entered in place it sends the kernel out of memory. (LAID: no walk: one application.) -/
theorem Tryd.bits_LeadingZeros64 (x : Int) (w : World) (h0 : 0 ≤ x) (h1 : x ≤ 18446744073709551615) :
    Calls Tryd.prog 73 #[.int .u64 x] w fun e w' => e = .returned (.int .i64 (64 - (Lib.bitLen x.toNat : Int))) ∧ w' = w := Any.bits_LeadingZeros64 Tryd.lays134 x w h0 h1
def Tryd.lays210_ren : Go.Shelf.Ren := ⟨fun | 210 => 62 | 206 => 77 | n => n, fun | 9 => 9 | 4 => 4 | 3 => 3 | n => n, fun | n => n⟩
theorem Tryd.lays210 : Go.Proofs.Lays.n210 Tryd.prog Tryd.lays210_ren := {
  mixed := by kernel_rfl
  f206 := Tryd.func77.trans (congrArg some (by kernel_rfl))
  f210 := Tryd.func62.trans (congrArg some (by kernel_rfl))
  t3 := Tryd.underlying3
  a3 := Tryd.isAgg3
  z3 := Tryd.sizeOf3
  v3 := Tryd.zeroValue3
  t4 := Tryd.underlying4
  a4 := Tryd.isAgg4
  z4 := Tryd.sizeOf4
  v4 := Tryd.zeroValue4
  t9 := Tryd.underlying9
  a9 := Tryd.isAgg9
  z9 := Tryd.sizeOf9
  v9 := Tryd.zeroValue9 }
open Go.RowKit in
/-- internal/stringslite.CutPrefix (what strings.CutPrefix calls). (LAID: no walk: one application.) -/
theorem Tryd.stringslite_CutPrefix (s p : ByteArray) (w : World) :
    Calls Tryd.prog 62 #[.string s, .string p] w fun e w' => e = .returned (.tuple #[.string ⟨(Lib.trimPrefix s.data.toList p.data.toList).toArray⟩, .bool (Lib.hasPrefix s.data.toList p.data.toList)]) ∧ w' = w := Any.stringslite_CutPrefix Tryd.lays210 s p w
def Tryd.lays103_ren : Go.Shelf.Ren := ⟨fun | 103 => 41 | 210 => 62 | 206 => 77 | n => n, fun | 9 => 9 | 4 => 4 | 24 => 71 | 3 => 3 | n => n, fun | n => n⟩
theorem Tryd.lays103 : Go.Proofs.Lays.n103 Tryd.prog Tryd.lays103_ren := {
  mixed := by kernel_rfl
  f103 := Tryd.func41.trans (congrArg some (by kernel_rfl))
  f206 := Tryd.func77.trans (congrArg some (by kernel_rfl))
  f210 := Tryd.func62.trans (congrArg some (by kernel_rfl))
  t3 := Tryd.underlying3
  a3 := Tryd.isAgg3
  z3 := Tryd.sizeOf3
  v3 := Tryd.zeroValue3
  t4 := Tryd.underlying4
  a4 := Tryd.isAgg4
  z4 := Tryd.sizeOf4
  v4 := Tryd.zeroValue4
  t9 := Tryd.underlying9
  a9 := Tryd.isAgg9
  z9 := Tryd.sizeOf9
  v9 := Tryd.zeroValue9
  t24 := Tryd.underlying71
  a24 := Tryd.isAgg71
  z24 := Tryd.sizeOf71
  v24 := Tryd.zeroValue71 }
open Go.RowKit in
/-- strings.CutPrefix: "CutPrefix returns s without the provided leading prefix string and reports whether it found the prefix. If s doesn't start with prefix, CutPrefix returns s, false. If prefix is the empty string, CutPrefix returns s, true.": IT RETURNS '(Lib.trimPrefix s p, Lib.hasPrefix s p)'; the world is as it was. (LAID: no walk: one application.) -/
theorem Tryd.strings_CutPrefix (s p : ByteArray) (w : World) :
    Calls Tryd.prog 41 #[.string s, .string p] w fun e w' => e = .returned (.tuple #[.string ⟨(Lib.trimPrefix s.data.toList p.data.toList).toArray⟩, .bool (Lib.hasPrefix s.data.toList p.data.toList)]) ∧ w' = w := Any.strings_CutPrefix Tryd.lays103 s p w
open Go.RowKit in
/-- (*strings.Builder).Len: "Len returns the number of accumulated bytes; b.Len() == len(b.String()).": the world is as it was. (THE FORM '_f': 'Lib.IsBuilderF'.) (LAID: no walk: one application.) -/
theorem Tryd.Builder_Len_f (B b : Nat) (bs : List Value) (w : World) (h : Lib.IsBuilderF 80 5 B b bs w) :
    Calls Tryd.prog 61 #[.pointer (some ⟨b, 0, none⟩)] w fun e w' => e = .returned (.int .i64 bs.length) ∧ w' = w := Any.Builder_Len_f Tryd.lays170 B b bs w h
open Go.RowKit in
/-- (*strings.Builder).String: "String returns the accumulated string.": OF A BUILDER THAT HOLDS AT LEAST ONE BYTE. ✋ THE MODEL FREEZES THOSE BYTES IN THE BUFFER (unsafe.String): a later write INTO them ends the model's run without an answer; a later append BEHIND them goes on. The statement's order of evaluation is drawn: one draw. THE FORM '_f': IT SAYS BESIDES THAT THE BUILDER IS A BUILDER STILL ('Lib.IsBuilderF', the same bytes): SO IT CAN BE WRITTEN ON: 'b.WriteString(b.String()[:k])'. (LAID: no walk: one application.) -/
theorem Tryd.Builder_String_f (B b : Nat) (l : List UInt8) (w : World) (h : Lib.IsBuilderF 80 5 B b (Lib.byteCells l) w) (h0 : l ≠ []) :
    Calls Tryd.prog 47 #[.pointer (some ⟨b, 0, none⟩)] w fun e w' => e = .returned (.string ⟨l.toArray⟩) ∧ (Lib.IsBuilderF 80 5 B b (Lib.byteCells l) w' ∧ Below B w w') := Any.Builder_String_f Tryd.lays169 Tryd.Builder_Extra_169 B b l w h h0
open Go.RowKit in
/-- (*strings.Builder).String OF A BUILDER THAT HOLDS NO BYTE: the empty string; THE FORM '_f': a builder still. (LAID: no walk: one application.) -/
theorem Tryd.Builder_String_empty_f (B b : Nat) (w : World) (h : Lib.IsBuilderF 80 5 B b [] w) (hBw : B ≤ w.heap.size) :
    Calls Tryd.prog 47 #[.pointer (some ⟨b, 0, none⟩)] w fun e w' => e = .returned (.string ⟨#[]⟩) ∧ (Lib.IsBuilderF 80 5 B b [] w' ∧ Below B w w') := Any.Builder_String_empty_f Tryd.lays169 Tryd.Builder_Extra_169 B b w h hBw
open Go.RowKit in
/-- (*strings.Builder).String: "String returns the accumulated string.": WHATEVER THE BUILDER HOLDS; THE FORM '_f': OF A BUILDER THAT MAY HAVE BEEN READ BEFORE; AND IT IS A BUILDER STILL, holding the same bytes: it can be written on. (LAID: no walk: one application.) -/
theorem Tryd.Builder_String_any_f (B b : Nat) (l : List UInt8) (w : World) (h : Lib.IsBuilderF 80 5 B b (Lib.byteCells l) w) (hBw : B ≤ w.heap.size) :
    Calls Tryd.prog 47 #[.pointer (some ⟨b, 0, none⟩)] w fun e w' => e = .returned (.string ⟨l.toArray⟩) ∧ (Lib.IsBuilderF 80 5 B b (Lib.byteCells l) w' ∧ Below B w w') := Any.Builder_String_any_f Tryd.lays169 Tryd.Builder_Extra_169 B b l w h hBw
def Tryd.lays129_ren : Go.Shelf.Ren := ⟨fun | 129 => 86 | n => n, fun | 53 => 22 | 3 => 3 | 4 => 4 | 46 => 76 | 5 => 5 | 9 => 9 | n => n, fun | n => n⟩
theorem Tryd.lays129 : Go.Proofs.Lays.n129 Tryd.prog Tryd.lays129_ren := {
  mixed := by kernel_rfl
  f129 := Tryd.func86.trans (congrArg some (by kernel_rfl))
  t3 := Tryd.underlying3
  a3 := Tryd.isAgg3
  z3 := Tryd.sizeOf3
  v3 := Tryd.zeroValue3
  t4 := Tryd.underlying4
  a4 := Tryd.isAgg4
  z4 := Tryd.sizeOf4
  v4 := Tryd.zeroValue4
  t5 := Tryd.underlying5
  a5 := Tryd.isAgg5
  z5 := Tryd.sizeOf5
  v5 := Tryd.zeroValue5
  t9 := Tryd.underlying9
  a9 := Tryd.isAgg9
  z9 := Tryd.sizeOf9
  v9 := Tryd.zeroValue9
  t46 := Tryd.underlying76
  a46 := Tryd.isAgg76
  z46 := Tryd.sizeOf76
  v46 := Tryd.zeroValue76
  t53 := Tryd.underlying22
  a53 := Tryd.isAgg22
  z53 := Tryd.sizeOf22
  v53 := Tryd.zeroValue22 }
/-- bits.Len64: "Len64 returns the minimum number of bits required to represent x; the result is 0 for x == 0.": IT RETURNS 'Lib.bitLen x'; the world is as it was. ('h0', 'h1': x is a uint64.) (LAID: no walk: one application.) -/
theorem Tryd.bits_Len64 (x : Int) (w : World) (h0 : 0 ≤ x) (h1 : x ≤ 18446744073709551615) :
    Calls Tryd.prog 86 #[.int .u64 x] w fun e w' => e = .returned (.int .i64 (Lib.bitLen x.toNat)) ∧ w' = w := Any.bits_Len64 Tryd.lays129 x w h0 h1
def Tryd.lays317_ren : Go.Shelf.Ren := ⟨fun | 317 => 85 | n => n, fun | 3 => 3 | 46 => 76 | n => n, fun | n => n⟩
theorem Tryd.lays317 : Go.Proofs.Lays.n317 Tryd.prog Tryd.lays317_ren := {
  mixed := by kernel_rfl
  f317 := Tryd.func85.trans (congrArg some (by kernel_rfl))
  t3 := Tryd.underlying3
  a3 := Tryd.isAgg3
  z3 := Tryd.sizeOf3
  v3 := Tryd.zeroValue3
  t46 := Tryd.underlying76
  a46 := Tryd.isAgg76
  z46 := Tryd.sizeOf76
  v46 := Tryd.zeroValue76 }
open Go.Lib in
/-- internal/strconv.log10Pow2: "log10Pow2(x) returns ⌊log₁₀ 2**x⌋ = ⌊x * log₁₀ 2⌋.": '(x * 78913) >> 18', at an x up to 64 (a length in bits). The world is as it was. (LAID: no walk: one application.) -/
theorem Tryd.internal_strconv_log10Pow2 (x : Nat) (h : x ≤ 64) (w : World) :
    Calls Tryd.prog 85 #[.int .i64 x] w fun e w' => e = .returned (.int .i64 (Lib.l10 x)) ∧ w' = w := Any.internal_strconv_log10Pow2 Tryd.lays317 x h w
def Tryd.lays318_ren : Go.Shelf.Ren := ⟨fun | 318 => 87 | n => n, fun | 3 => 3 | 4 => 4 | n => n, fun | n => n⟩
theorem Tryd.lays318 : Go.Proofs.Lays.n318 Tryd.prog Tryd.lays318_ren := {
  mixed := by kernel_rfl
  f318 := Tryd.func87.trans (congrArg some (by kernel_rfl))
  t3 := Tryd.underlying3
  a3 := Tryd.isAgg3
  z3 := Tryd.sizeOf3
  v3 := Tryd.zeroValue3
  t4 := Tryd.underlying4
  a4 := Tryd.isAgg4
  z4 := Tryd.sizeOf4
  v4 := Tryd.zeroValue4 }
open Go.Lib in
/-- internal/strconv.bool2: "bool2 converts b to an integer: 1 for true, 0 for false." The world is as it was. (LAID: no walk: one application.) -/
theorem Tryd.internal_strconv_bool2_int (b : Bool) (w : World) :
    Calls Tryd.prog 87 #[.bool b] w fun e w' => e = .returned (.int .i64 (if b then 1 else 0)) ∧ w' = w := Any.internal_strconv_bool2_int Tryd.lays318 b w
def Tryd.lays283_ren : Go.Shelf.Ren := ⟨fun | 283 => 68 | n => n, fun | 3 => 3 | 9 => 9 | 4 => 4 | n => n, fun | n => n⟩
theorem Tryd.lays283 : Go.Proofs.Lays.n283 Tryd.prog Tryd.lays283_ren := {
  mixed := by kernel_rfl
  f283 := Tryd.func68.trans (congrArg some (by kernel_rfl))
  t3 := Tryd.underlying3
  a3 := Tryd.isAgg3
  z3 := Tryd.sizeOf3
  v3 := Tryd.zeroValue3
  t4 := Tryd.underlying4
  a4 := Tryd.isAgg4
  z4 := Tryd.sizeOf4
  v4 := Tryd.zeroValue4
  t9 := Tryd.underlying9
  a9 := Tryd.isAgg9
  z9 := Tryd.sizeOf9
  v9 := Tryd.zeroValue9 }
open Go.Lib in
/-- internal/strconv.small: "small returns the string for an i with 0 <= i < nSmalls.": i's decimal numeral. The world is as it was. (LAID: no walk: one application.) -/
theorem Tryd.internal_strconv_small (i : Nat) (h : i < 100) (w : World) :
    Calls Tryd.prog 68 #[.int .i64 i] w fun e w' => e = .returned (.string ⟨(Lib.decDigits i).toArray⟩) ∧ w' = w := Any.internal_strconv_small Tryd.lays283 i h w
def Tryd.laysM284_ren : Go.Shelf.Ren := ⟨fun | 284 => 69 | 129 => 86 | 317 => 85 | 318 => 87 | n => n, fun | 53 => 22 | 3 => 3 | 212 => 26 | 0 => 0 | 4 => 4 | 46 => 76 | 5 => 5 | 9 => 9 | n => n, fun | 17 => 3 | n => n⟩
theorem Tryd.laysM284 : Go.Proofs.LaysM.n284 Tryd.prog Tryd.laysM284_ren := {
  mixed := by kernel_rfl
  f129 := Tryd.func86.trans (congrArg some (by kernel_rfl))
  f284 := Tryd.func69.trans (congrArg some (by kernel_rfl))
  f317 := Tryd.func85.trans (congrArg some (by kernel_rfl))
  f318 := Tryd.func87.trans (congrArg some (by kernel_rfl))
  t0 := Tryd.underlying0
  a0 := Tryd.isAgg0
  z0 := Tryd.sizeOf0
  v0 := Tryd.zeroValue0
  t3 := Tryd.underlying3
  a3 := Tryd.isAgg3
  z3 := Tryd.sizeOf3
  v3 := Tryd.zeroValue3
  t4 := Tryd.underlying4
  a4 := Tryd.isAgg4
  z4 := Tryd.sizeOf4
  v4 := Tryd.zeroValue4
  t5 := Tryd.underlying5
  a5 := Tryd.isAgg5
  z5 := Tryd.sizeOf5
  v5 := Tryd.zeroValue5
  t9 := Tryd.underlying9
  a9 := Tryd.isAgg9
  z9 := Tryd.sizeOf9
  v9 := Tryd.zeroValue9
  t46 := Tryd.underlying76
  a46 := Tryd.isAgg76
  z46 := Tryd.sizeOf76
  v46 := Tryd.zeroValue76
  t53 := Tryd.underlying22
  a53 := Tryd.isAgg22
  z53 := Tryd.sizeOf22
  v53 := Tryd.zeroValue22
  t212 := Tryd.underlying26
  a212 := Tryd.isAgg26
  z212 := Tryd.sizeOf26
  v212 := Tryd.zeroValue26
  g17 := by kernel_rfl
  i0 := by kernel_rfl
  i3 := by kernel_rfl
  i4 := by kernel_rfl
  i5 := by kernel_rfl
  i9 := by kernel_rfl
  i46 := by kernel_rfl
  i53 := by kernel_rfl
  i212 := by kernel_rfl
  m17 := by kernel_rfl }
open Go.Lib in
/-- internal/strconv.numDigits, at a d that is not 0: THE NUMBER OF d's DECIMAL DIGITS. The world is as it was. (LAID: no walk: one application.) -/
theorem Tryd.internal_strconv_numDigits (u : Nat) (h1 : 1 ≤ u) (h2 : u < 18446744073709551616) (w : World) (htab : Lib.TabIs Tryd.prog w "internal/strconv.uint64pow10" .u64 Lib.pow10Tab) :
    Calls Tryd.prog 69 #[.int .u64 u] w fun e w' => e = .returned (.int .i64 (Lib.nDigits u)) ∧ w' = w := Any.internal_strconv_numDigits Tryd.laysM284 u h1 h2 w htab
def Tryd.lays285_ren : Go.Shelf.Ren := ⟨fun | 285 => 70 | n => n, fun | 37 => 51 | 53 => 22 | 3 => 3 | 4 => 4 | 51 => 75 | 9 => 9 | 5 => 5 | 0 => 0 | n => n, fun | n => n⟩
theorem Tryd.lays285 : Go.Proofs.Lays.n285 Tryd.prog Tryd.lays285_ren := {
  mixed := by kernel_rfl
  f285 := Tryd.func70.trans (congrArg some (by kernel_rfl))
  t0 := Tryd.underlying0
  a0 := Tryd.isAgg0
  z0 := Tryd.sizeOf0
  v0 := Tryd.zeroValue0
  t3 := Tryd.underlying3
  a3 := Tryd.isAgg3
  z3 := Tryd.sizeOf3
  v3 := Tryd.zeroValue3
  t4 := Tryd.underlying4
  a4 := Tryd.isAgg4
  z4 := Tryd.sizeOf4
  v4 := Tryd.zeroValue4
  t5 := Tryd.underlying5
  a5 := Tryd.isAgg5
  z5 := Tryd.sizeOf5
  v5 := Tryd.zeroValue5
  t9 := Tryd.underlying9
  a9 := Tryd.isAgg9
  z9 := Tryd.sizeOf9
  v9 := Tryd.zeroValue9
  t37 := Tryd.underlying51
  a37 := Tryd.isAgg51
  z37 := Tryd.sizeOf51
  v37 := Tryd.zeroValue51
  t51 := Tryd.underlying75
  a51 := Tryd.isAgg75
  z51 := Tryd.sizeOf75
  v51 := Tryd.zeroValue75
  t53 := Tryd.underlying22
  a53 := Tryd.isAgg22
  z53 := Tryd.sizeOf22
  v53 := Tryd.zeroValue22 }
open Go.RowKit Go.Sort Go.Lib in
/-- internal/strconv.formatBase10: "formatBase10 formats the decimal representation of u into a. The caller is responsible for ensuring that a is big enough to hold u. If a is too big, leading zeros will be filled in as needed.": THE ROW HOLDS u's DIGITS ('FmtInv .. 0 ..': every place t holds 'dg u (len - 1 - t)'); all else is as it was but for the count of draws. (LAID: no walk: one application.) -/
theorem Tryd.internal_strconv_formatBase10 (blk off cap : Nat) (u : Nat) (d : Array UInt8) (w : World) (hH : Holds (fun (b : UInt8) => Value.int .u8 (b.toNat : Int)) w blk off d) (hu : u < 10 ^ d.size) (hu64 : u < 18446744073709551616) (hsz : d.size < 4611686018427387904) :
    Calls Tryd.prog 70 #[.slice (some ⟨blk, off, none⟩) d.size cap, .int .u64 u] w fun e w' =>
      e = .returned (.tuple #[]) ∧ ∃ (n v' : Nat) (dk : Array UInt8), w' = (putRow (fun (b : UInt8) => Value.int .u8 (b.toNat : Int)) w blk off dk).drewN n ∧ FmtInv d.size u 0 v' dk := Any.internal_strconv_formatBase10 Tryd.lays285 blk off cap u d w hH hu hu64 hsz
def Tryd.laysM246_ren : Go.Shelf.Ren := ⟨fun | 246 => 51 | 283 => 68 | 284 => 69 | 285 => 70 | 286 => 71 | 129 => 86 | 317 => 85 | 318 => 87 | 319 => 88 | 320 => 89 | 337 => 94 | 338 => 95 | n => n, fun | 2 => 2 | 3 => 3 | 9 => 9 | 4 => 4 | 171 => 104 | 0 => 0 | 53 => 22 | 37 => 51 | 5 => 5 | 173 => 107 | 212 => 26 | 51 => 75 | 20 => 20 | 213 => 118 | 46 => 76 | 232 => 125 | 233 => 126 | n => n, fun | 17 => 3 | 18 => 4 | 19 => 5 | n => n⟩
theorem Tryd.laysM246 : Go.Proofs.LaysM.n246 Tryd.prog Tryd.laysM246_ren := {
  mixed := by kernel_rfl
  f129 := Tryd.func86.trans (congrArg some (by kernel_rfl))
  f246 := Tryd.func51.trans (congrArg some (by kernel_rfl))
  f283 := Tryd.func68.trans (congrArg some (by kernel_rfl))
  f284 := Tryd.func69.trans (congrArg some (by kernel_rfl))
  f285 := Tryd.func70.trans (congrArg some (by kernel_rfl))
  f286 := Tryd.func71.trans (congrArg some (by kernel_rfl))
  f317 := Tryd.func85.trans (congrArg some (by kernel_rfl))
  f318 := Tryd.func87.trans (congrArg some (by kernel_rfl))
  f319 := Tryd.func88.trans (congrArg some (by kernel_rfl))
  f320 := Tryd.func89.trans (congrArg some (by kernel_rfl))
  f337 := Tryd.func94.trans (congrArg some (by kernel_rfl))
  f338 := Tryd.func95.trans (congrArg some (by kernel_rfl))
  t0 := Tryd.underlying0
  a0 := Tryd.isAgg0
  z0 := Tryd.sizeOf0
  v0 := Tryd.zeroValue0
  t2 := Tryd.underlying2
  a2 := Tryd.isAgg2
  z2 := Tryd.sizeOf2
  v2 := Tryd.zeroValue2
  t3 := Tryd.underlying3
  a3 := Tryd.isAgg3
  z3 := Tryd.sizeOf3
  v3 := Tryd.zeroValue3
  t4 := Tryd.underlying4
  a4 := Tryd.isAgg4
  z4 := Tryd.sizeOf4
  v4 := Tryd.zeroValue4
  t5 := Tryd.underlying5
  a5 := Tryd.isAgg5
  z5 := Tryd.sizeOf5
  v5 := Tryd.zeroValue5
  t9 := Tryd.underlying9
  a9 := Tryd.isAgg9
  z9 := Tryd.sizeOf9
  v9 := Tryd.zeroValue9
  t20 := Tryd.underlying20
  a20 := Tryd.isAgg20
  z20 := Tryd.sizeOf20
  v20 := Tryd.zeroValue20
  t37 := Tryd.underlying51
  a37 := Tryd.isAgg51
  z37 := Tryd.sizeOf51
  v37 := Tryd.zeroValue51
  t46 := Tryd.underlying76
  a46 := Tryd.isAgg76
  z46 := Tryd.sizeOf76
  v46 := Tryd.zeroValue76
  t51 := Tryd.underlying75
  a51 := Tryd.isAgg75
  z51 := Tryd.sizeOf75
  v51 := Tryd.zeroValue75
  t53 := Tryd.underlying22
  a53 := Tryd.isAgg22
  z53 := Tryd.sizeOf22
  v53 := Tryd.zeroValue22
  t171 := Tryd.underlying104
  a171 := Tryd.isAgg104
  z171 := Tryd.sizeOf104
  v171 := Tryd.zeroValue104
  t173 := Tryd.underlying107
  a173 := Tryd.isAgg107
  z173 := Tryd.sizeOf107
  v173 := Tryd.zeroValue107
  t212 := Tryd.underlying26
  a212 := Tryd.isAgg26
  z212 := Tryd.sizeOf26
  v212 := Tryd.zeroValue26
  t213 := Tryd.underlying118
  a213 := Tryd.isAgg118
  z213 := Tryd.sizeOf118
  t232 := Tryd.underlying125
  a232 := Tryd.isAgg125
  z232 := Tryd.sizeOf125
  v232 := Tryd.zeroValue125
  t233 := Tryd.underlying126
  a233 := Tryd.isAgg126
  z233 := Tryd.sizeOf126
  v233 := Tryd.zeroValue126
  g17 := by kernel_rfl
  g18 := by kernel_rfl
  g19 := by kernel_rfl
  i0 := by kernel_rfl
  i2 := by kernel_rfl
  i3 := by kernel_rfl
  i4 := by kernel_rfl
  i5 := by kernel_rfl
  i9 := by kernel_rfl
  i20 := by kernel_rfl
  i37 := by kernel_rfl
  i46 := by kernel_rfl
  i51 := by kernel_rfl
  i53 := by kernel_rfl
  i171 := by kernel_rfl
  i173 := by kernel_rfl
  i212 := by kernel_rfl
  i232 := by kernel_rfl
  i233 := by kernel_rfl
  m17 := by kernel_rfl
  m18 := by kernel_rfl
  m19 := by kernel_rfl }
open Go.RowKit Go.Sort Go.Lib in
/-- internal/strconv.FormatInt: "FormatInt returns the string representation of i in the given base": AT BASE 10: i's decimal numeral, for every int64. The world behind the call: the world before it, new blocks behind the heap, draws. (LAID: no walk: one application.) -/
theorem Tryd.internal_strconv_FormatInt_10 (n : Int) (h0 : -9223372036854775808 ≤ n) (h1 : n ≤ 9223372036854775807) (w : World) (htab : Lib.TabIs Tryd.prog w "internal/strconv.uint64pow10" .u64 Lib.pow10Tab) :
    Calls Tryd.prog 51 #[.int .i64 n, .int .i64 10] w fun e w' => e = .returned (.string ⟨(Lib.itoa n).toArray⟩) ∧ ∃ k os, w' = grow (w.drewN k) os := Any.internal_strconv_FormatInt_10 Tryd.laysM246 n h0 h1 w htab
def Tryd.lays246_ren : Go.Shelf.Ren := ⟨fun | 246 => 51 | 283 => 68 | 284 => 69 | 285 => 70 | 286 => 71 | 129 => 86 | 317 => 85 | 318 => 87 | 319 => 88 | 320 => 89 | 337 => 94 | 338 => 95 | n => n, fun | 2 => 2 | 3 => 3 | 9 => 9 | 4 => 4 | 171 => 104 | 0 => 0 | 53 => 22 | 37 => 51 | 5 => 5 | 173 => 107 | 212 => 26 | 51 => 75 | 20 => 20 | 213 => 118 | 46 => 76 | 232 => 125 | 233 => 126 | n => n, fun | 17 => 3 | 18 => 4 | 19 => 5 | n => n⟩
theorem Tryd.lays246 : Go.Proofs.Lays.n246 Tryd.prog Tryd.lays246_ren := {
  mixed := by kernel_rfl
  f129 := Tryd.func86.trans (congrArg some (by kernel_rfl))
  f246 := Tryd.func51.trans (congrArg some (by kernel_rfl))
  f283 := Tryd.func68.trans (congrArg some (by kernel_rfl))
  f284 := Tryd.func69.trans (congrArg some (by kernel_rfl))
  f285 := Tryd.func70.trans (congrArg some (by kernel_rfl))
  f286 := Tryd.func71.trans (congrArg some (by kernel_rfl))
  f317 := Tryd.func85.trans (congrArg some (by kernel_rfl))
  f318 := Tryd.func87.trans (congrArg some (by kernel_rfl))
  f319 := Tryd.func88.trans (congrArg some (by kernel_rfl))
  f320 := Tryd.func89.trans (congrArg some (by kernel_rfl))
  f337 := Tryd.func94.trans (congrArg some (by kernel_rfl))
  f338 := Tryd.func95.trans (congrArg some (by kernel_rfl))
  t0 := Tryd.underlying0
  a0 := Tryd.isAgg0
  z0 := Tryd.sizeOf0
  v0 := Tryd.zeroValue0
  t2 := Tryd.underlying2
  a2 := Tryd.isAgg2
  z2 := Tryd.sizeOf2
  v2 := Tryd.zeroValue2
  t3 := Tryd.underlying3
  a3 := Tryd.isAgg3
  z3 := Tryd.sizeOf3
  v3 := Tryd.zeroValue3
  t4 := Tryd.underlying4
  a4 := Tryd.isAgg4
  z4 := Tryd.sizeOf4
  v4 := Tryd.zeroValue4
  t5 := Tryd.underlying5
  a5 := Tryd.isAgg5
  z5 := Tryd.sizeOf5
  v5 := Tryd.zeroValue5
  t9 := Tryd.underlying9
  a9 := Tryd.isAgg9
  z9 := Tryd.sizeOf9
  v9 := Tryd.zeroValue9
  t20 := Tryd.underlying20
  a20 := Tryd.isAgg20
  z20 := Tryd.sizeOf20
  v20 := Tryd.zeroValue20
  t37 := Tryd.underlying51
  a37 := Tryd.isAgg51
  z37 := Tryd.sizeOf51
  v37 := Tryd.zeroValue51
  t46 := Tryd.underlying76
  a46 := Tryd.isAgg76
  z46 := Tryd.sizeOf76
  v46 := Tryd.zeroValue76
  t51 := Tryd.underlying75
  a51 := Tryd.isAgg75
  z51 := Tryd.sizeOf75
  v51 := Tryd.zeroValue75
  t53 := Tryd.underlying22
  a53 := Tryd.isAgg22
  z53 := Tryd.sizeOf22
  v53 := Tryd.zeroValue22
  t171 := Tryd.underlying104
  a171 := Tryd.isAgg104
  z171 := Tryd.sizeOf104
  v171 := Tryd.zeroValue104
  t173 := Tryd.underlying107
  a173 := Tryd.isAgg107
  z173 := Tryd.sizeOf107
  v173 := Tryd.zeroValue107
  t212 := Tryd.underlying26
  a212 := Tryd.isAgg26
  z212 := Tryd.sizeOf26
  v212 := Tryd.zeroValue26
  t213 := Tryd.underlying118
  a213 := Tryd.isAgg118
  z213 := Tryd.sizeOf118
  t232 := Tryd.underlying125
  a232 := Tryd.isAgg125
  z232 := Tryd.sizeOf125
  v232 := Tryd.zeroValue125
  t233 := Tryd.underlying126
  a233 := Tryd.isAgg126
  z233 := Tryd.sizeOf126
  v233 := Tryd.zeroValue126
  g17 := by kernel_rfl
  g18 := by kernel_rfl
  g19 := by kernel_rfl }
open Go.RowKit Go.Sort Go.Lib in
/-- THE ROAD WITHOUT THE TABLE: 0 <= i < 100: two constants are read, nothing is laid: no premise on the world, and the world is as it was. (LAID: no walk: one application.) -/
theorem Tryd.internal_strconv_FormatInt_10_small (i : Nat) (hi : i < 100) (w : World) :
    Calls Tryd.prog 51 #[.int .i64 i, .int .i64 10] w fun e w' => e = .returned (.string ⟨(Lib.decDigits i).toArray⟩) ∧ w' = w := Any.internal_strconv_FormatInt_10_small Tryd.lays246 i hi w
def Tryd.laysM173_ren : Go.Shelf.Ren := ⟨fun | 173 => 30 | 246 => 51 | 283 => 68 | 284 => 69 | 285 => 70 | 286 => 71 | 129 => 86 | 317 => 85 | 318 => 87 | 319 => 88 | 320 => 89 | 337 => 94 | 338 => 95 | n => n, fun | 2 => 2 | 3 => 3 | 9 => 9 | 4 => 4 | 171 => 104 | 0 => 0 | 53 => 22 | 37 => 51 | 5 => 5 | 173 => 107 | 212 => 26 | 51 => 75 | 20 => 20 | 213 => 118 | 46 => 76 | 232 => 125 | 233 => 126 | n => n, fun | 17 => 3 | 18 => 4 | 19 => 5 | n => n⟩
theorem Tryd.laysM173 : Go.Proofs.LaysM.n173 Tryd.prog Tryd.laysM173_ren := {
  mixed := by kernel_rfl
  f129 := Tryd.func86.trans (congrArg some (by kernel_rfl))
  f173 := Tryd.func30.trans (congrArg some (by kernel_rfl))
  f246 := Tryd.func51.trans (congrArg some (by kernel_rfl))
  f283 := Tryd.func68.trans (congrArg some (by kernel_rfl))
  f284 := Tryd.func69.trans (congrArg some (by kernel_rfl))
  f285 := Tryd.func70.trans (congrArg some (by kernel_rfl))
  f286 := Tryd.func71.trans (congrArg some (by kernel_rfl))
  f317 := Tryd.func85.trans (congrArg some (by kernel_rfl))
  f318 := Tryd.func87.trans (congrArg some (by kernel_rfl))
  f319 := Tryd.func88.trans (congrArg some (by kernel_rfl))
  f320 := Tryd.func89.trans (congrArg some (by kernel_rfl))
  f337 := Tryd.func94.trans (congrArg some (by kernel_rfl))
  f338 := Tryd.func95.trans (congrArg some (by kernel_rfl))
  t0 := Tryd.underlying0
  a0 := Tryd.isAgg0
  z0 := Tryd.sizeOf0
  v0 := Tryd.zeroValue0
  t2 := Tryd.underlying2
  a2 := Tryd.isAgg2
  z2 := Tryd.sizeOf2
  v2 := Tryd.zeroValue2
  t3 := Tryd.underlying3
  a3 := Tryd.isAgg3
  z3 := Tryd.sizeOf3
  v3 := Tryd.zeroValue3
  t4 := Tryd.underlying4
  a4 := Tryd.isAgg4
  z4 := Tryd.sizeOf4
  v4 := Tryd.zeroValue4
  t5 := Tryd.underlying5
  a5 := Tryd.isAgg5
  z5 := Tryd.sizeOf5
  v5 := Tryd.zeroValue5
  t9 := Tryd.underlying9
  a9 := Tryd.isAgg9
  z9 := Tryd.sizeOf9
  v9 := Tryd.zeroValue9
  t20 := Tryd.underlying20
  a20 := Tryd.isAgg20
  z20 := Tryd.sizeOf20
  v20 := Tryd.zeroValue20
  t37 := Tryd.underlying51
  a37 := Tryd.isAgg51
  z37 := Tryd.sizeOf51
  v37 := Tryd.zeroValue51
  t46 := Tryd.underlying76
  a46 := Tryd.isAgg76
  z46 := Tryd.sizeOf76
  v46 := Tryd.zeroValue76
  t51 := Tryd.underlying75
  a51 := Tryd.isAgg75
  z51 := Tryd.sizeOf75
  v51 := Tryd.zeroValue75
  t53 := Tryd.underlying22
  a53 := Tryd.isAgg22
  z53 := Tryd.sizeOf22
  v53 := Tryd.zeroValue22
  t171 := Tryd.underlying104
  a171 := Tryd.isAgg104
  z171 := Tryd.sizeOf104
  v171 := Tryd.zeroValue104
  t173 := Tryd.underlying107
  a173 := Tryd.isAgg107
  z173 := Tryd.sizeOf107
  v173 := Tryd.zeroValue107
  t212 := Tryd.underlying26
  a212 := Tryd.isAgg26
  z212 := Tryd.sizeOf26
  v212 := Tryd.zeroValue26
  t213 := Tryd.underlying118
  a213 := Tryd.isAgg118
  z213 := Tryd.sizeOf118
  t232 := Tryd.underlying125
  a232 := Tryd.isAgg125
  z232 := Tryd.sizeOf125
  v232 := Tryd.zeroValue125
  t233 := Tryd.underlying126
  a233 := Tryd.isAgg126
  z233 := Tryd.sizeOf126
  v233 := Tryd.zeroValue126
  g17 := by kernel_rfl
  g18 := by kernel_rfl
  g19 := by kernel_rfl
  i0 := by kernel_rfl
  i2 := by kernel_rfl
  i3 := by kernel_rfl
  i4 := by kernel_rfl
  i5 := by kernel_rfl
  i9 := by kernel_rfl
  i20 := by kernel_rfl
  i37 := by kernel_rfl
  i46 := by kernel_rfl
  i51 := by kernel_rfl
  i53 := by kernel_rfl
  i171 := by kernel_rfl
  i173 := by kernel_rfl
  i212 := by kernel_rfl
  i232 := by kernel_rfl
  i233 := by kernel_rfl
  m17 := by kernel_rfl
  m18 := by kernel_rfl
  m19 := by kernel_rfl }
open Go.RowKit Go.Sort Go.Lib in
/-- strconv.FormatInt: "FormatInt returns the string representation of i in the given base": AT BASE 10: i's decimal numeral, for every int64. (LAID: no walk: one application.) -/
theorem Tryd.strconv_FormatInt_10 (n : Int) (h0 : -9223372036854775808 ≤ n) (h1 : n ≤ 9223372036854775807) (w : World) (htab : Lib.TabIs Tryd.prog w "internal/strconv.uint64pow10" .u64 Lib.pow10Tab) :
    Calls Tryd.prog 30 #[.int .i64 n, .int .i64 10] w fun e w' => e = .returned (.string ⟨(Lib.itoa n).toArray⟩) ∧ ∃ k os, w' = grow (w.drewN k) os := Any.strconv_FormatInt_10 Tryd.laysM173 n h0 h1 w htab
def Tryd.lays173_ren : Go.Shelf.Ren := ⟨fun | 173 => 30 | 246 => 51 | 283 => 68 | 284 => 69 | 285 => 70 | 286 => 71 | 129 => 86 | 317 => 85 | 318 => 87 | 319 => 88 | 320 => 89 | 337 => 94 | 338 => 95 | n => n, fun | 2 => 2 | 3 => 3 | 9 => 9 | 4 => 4 | 171 => 104 | 0 => 0 | 53 => 22 | 37 => 51 | 5 => 5 | 173 => 107 | 212 => 26 | 51 => 75 | 20 => 20 | 213 => 118 | 46 => 76 | 232 => 125 | 233 => 126 | n => n, fun | 17 => 3 | 18 => 4 | 19 => 5 | n => n⟩
theorem Tryd.lays173 : Go.Proofs.Lays.n173 Tryd.prog Tryd.lays173_ren := {
  mixed := by kernel_rfl
  f129 := Tryd.func86.trans (congrArg some (by kernel_rfl))
  f173 := Tryd.func30.trans (congrArg some (by kernel_rfl))
  f246 := Tryd.func51.trans (congrArg some (by kernel_rfl))
  f283 := Tryd.func68.trans (congrArg some (by kernel_rfl))
  f284 := Tryd.func69.trans (congrArg some (by kernel_rfl))
  f285 := Tryd.func70.trans (congrArg some (by kernel_rfl))
  f286 := Tryd.func71.trans (congrArg some (by kernel_rfl))
  f317 := Tryd.func85.trans (congrArg some (by kernel_rfl))
  f318 := Tryd.func87.trans (congrArg some (by kernel_rfl))
  f319 := Tryd.func88.trans (congrArg some (by kernel_rfl))
  f320 := Tryd.func89.trans (congrArg some (by kernel_rfl))
  f337 := Tryd.func94.trans (congrArg some (by kernel_rfl))
  f338 := Tryd.func95.trans (congrArg some (by kernel_rfl))
  t0 := Tryd.underlying0
  a0 := Tryd.isAgg0
  z0 := Tryd.sizeOf0
  v0 := Tryd.zeroValue0
  t2 := Tryd.underlying2
  a2 := Tryd.isAgg2
  z2 := Tryd.sizeOf2
  v2 := Tryd.zeroValue2
  t3 := Tryd.underlying3
  a3 := Tryd.isAgg3
  z3 := Tryd.sizeOf3
  v3 := Tryd.zeroValue3
  t4 := Tryd.underlying4
  a4 := Tryd.isAgg4
  z4 := Tryd.sizeOf4
  v4 := Tryd.zeroValue4
  t5 := Tryd.underlying5
  a5 := Tryd.isAgg5
  z5 := Tryd.sizeOf5
  v5 := Tryd.zeroValue5
  t9 := Tryd.underlying9
  a9 := Tryd.isAgg9
  z9 := Tryd.sizeOf9
  v9 := Tryd.zeroValue9
  t20 := Tryd.underlying20
  a20 := Tryd.isAgg20
  z20 := Tryd.sizeOf20
  v20 := Tryd.zeroValue20
  t37 := Tryd.underlying51
  a37 := Tryd.isAgg51
  z37 := Tryd.sizeOf51
  v37 := Tryd.zeroValue51
  t46 := Tryd.underlying76
  a46 := Tryd.isAgg76
  z46 := Tryd.sizeOf76
  v46 := Tryd.zeroValue76
  t51 := Tryd.underlying75
  a51 := Tryd.isAgg75
  z51 := Tryd.sizeOf75
  v51 := Tryd.zeroValue75
  t53 := Tryd.underlying22
  a53 := Tryd.isAgg22
  z53 := Tryd.sizeOf22
  v53 := Tryd.zeroValue22
  t171 := Tryd.underlying104
  a171 := Tryd.isAgg104
  z171 := Tryd.sizeOf104
  v171 := Tryd.zeroValue104
  t173 := Tryd.underlying107
  a173 := Tryd.isAgg107
  z173 := Tryd.sizeOf107
  v173 := Tryd.zeroValue107
  t212 := Tryd.underlying26
  a212 := Tryd.isAgg26
  z212 := Tryd.sizeOf26
  v212 := Tryd.zeroValue26
  t213 := Tryd.underlying118
  a213 := Tryd.isAgg118
  z213 := Tryd.sizeOf118
  t232 := Tryd.underlying125
  a232 := Tryd.isAgg125
  z232 := Tryd.sizeOf125
  v232 := Tryd.zeroValue125
  t233 := Tryd.underlying126
  a233 := Tryd.isAgg126
  z233 := Tryd.sizeOf126
  v233 := Tryd.zeroValue126
  g17 := by kernel_rfl
  g18 := by kernel_rfl
  g19 := by kernel_rfl }
open Go.RowKit Go.Sort Go.Lib in
/-- THE ROAD WITHOUT THE TABLE: 0 <= i < 100. (LAID: no walk: one application.) -/
theorem Tryd.strconv_FormatInt_10_small (i : Nat) (hi : i < 100) (w : World) :
    Calls Tryd.prog 30 #[.int .i64 i, .int .i64 10] w fun e w' => e = .returned (.string ⟨(Lib.decDigits i).toArray⟩) ∧ w' = w := Any.strconv_FormatInt_10_small Tryd.lays173 i hi w
def Tryd.lays217_ren : Go.Shelf.Ren := ⟨fun | 217 => 81 | 266 => 92 | n => n, fun | 9 => 9 | 5 => 5 | 3 => 3 | n => n, fun | n => n⟩
theorem Tryd.lays217 : Go.Proofs.Lays.n217 Tryd.prog Tryd.lays217_ren := {
  mixed := by kernel_rfl
  f217 := Tryd.func81.trans (congrArg some (by kernel_rfl))
  f266 := Tryd.func92.trans (congrArg some (by kernel_rfl))
  t3 := Tryd.underlying3
  a3 := Tryd.isAgg3
  z3 := Tryd.sizeOf3
  v3 := Tryd.zeroValue3
  t5 := Tryd.underlying5
  a5 := Tryd.isAgg5
  z5 := Tryd.sizeOf5
  v5 := Tryd.zeroValue5
  t9 := Tryd.underlying9
  a9 := Tryd.isAgg9
  z9 := Tryd.sizeOf9
  v9 := Tryd.zeroValue9 }
open Go.RowKit Go.Lib in
/-- internal/stringslite.IndexByte (what strings.IndexByte calls): IT RETURNS 'Lib.indexByte s c'; the world is as it was. (LAID: no walk: one application.) -/
theorem Tryd.stringslite_IndexByte (s : ByteArray) (c : Int) (w : World) :
    Calls Tryd.prog 81 #[.string s, .int .u8 c] w fun e w' => e = .returned (.int .i64 (Lib.indexByte s.data.toList c.toNat.toUInt8)) ∧ w' = w := Any.stringslite_IndexByte Tryd.lays217 s c w
def Tryd.lays224_ren : Go.Shelf.Ren := ⟨fun | 224 => 83 | n => n, fun | 3 => 3 | n => n, fun | n => n⟩
theorem Tryd.lays224 : Go.Proofs.Lays.n224 Tryd.prog Tryd.lays224_ren := {
  mixed := by kernel_rfl
  f224 := Tryd.func83.trans (congrArg some (by kernel_rfl))
  t3 := Tryd.underlying3
  a3 := Tryd.isAgg3
  z3 := Tryd.sizeOf3
  v3 := Tryd.zeroValue3 }
open Go.RowKit Go.Lib in
/-- internal/bytealg.Cutover: "Cutover reports the number of failures of IndexByte we should tolerate before switching over to Index. n is the number of bytes processed so far.": on amd64: (n + 16) / 8. (LAID: no walk: one application.) -/
theorem Tryd.bytealg_Cutover (n : Int) (h0 : 0 ≤ n) (h1 : n < 4611686018427387904) (w : World) :
    Calls Tryd.prog 83 #[.int .i64 n] w fun e w' => e = .returned (.int .i64 ((n + 16) / 8)) ∧ w' = w := Any.bytealg_Cutover Tryd.lays224 n h0 h1 w
def Tryd.lays314_ren : Go.Shelf.Ren := ⟨fun | 314 => 93 | n => n, fun | 9 => 9 | 51 => 75 | 3 => 3 | 4 => 4 | 5 => 5 | 46 => 76 | n => n, fun | n => n⟩
theorem Tryd.lays314 : Go.Proofs.Lays.n314 Tryd.prog Tryd.lays314_ren := {
  mixed := by kernel_rfl
  f314 := Tryd.func93.trans (congrArg some (by kernel_rfl))
  t3 := Tryd.underlying3
  a3 := Tryd.isAgg3
  z3 := Tryd.sizeOf3
  v3 := Tryd.zeroValue3
  t4 := Tryd.underlying4
  a4 := Tryd.isAgg4
  z4 := Tryd.sizeOf4
  v4 := Tryd.zeroValue4
  t5 := Tryd.underlying5
  a5 := Tryd.isAgg5
  z5 := Tryd.sizeOf5
  v5 := Tryd.zeroValue5
  t9 := Tryd.underlying9
  a9 := Tryd.isAgg9
  z9 := Tryd.sizeOf9
  v9 := Tryd.zeroValue9
  t46 := Tryd.underlying76
  a46 := Tryd.isAgg76
  z46 := Tryd.sizeOf76
  v46 := Tryd.zeroValue76
  t51 := Tryd.underlying75
  a51 := Tryd.isAgg75
  z51 := Tryd.sizeOf75
  v51 := Tryd.zeroValue75 }
open Go.RowKit Go.Lib in
/-- hashStr: "returns the hash and the appropriate multiplicative factor for use in Rabin-Karp algorithm": THE HASH OF ALL OF sep, AND 16777619 ^ len(sep), both in uint32. (LAID: no walk: one application.) -/
theorem Tryd.bytealg_hashStr (sep : ByteArray) (hs : sep.size < 4294967281) (w : World) :
    Calls Tryd.prog 93 #[.string sep] w fun e w' => e = .returned (.tuple #[.int .u32 (RK.H sep.data.toList % 4294967296), .int .u32 (16777619 ^ sep.size % 4294967296)]) ∧ w' = w := Any.bytealg_hashStr Tryd.lays314 sep hs w
def Tryd.lays267_ren : Go.Shelf.Ren := ⟨fun | 267 => 84 | 314 => 93 | n => n, fun | 9 => 9 | 3 => 3 | 146 => 110 | 51 => 75 | 4 => 4 | 5 => 5 | 46 => 76 | n => n, fun | n => n⟩
theorem Tryd.lays267 : Go.Proofs.Lays.n267 Tryd.prog Tryd.lays267_ren := {
  mixed := by kernel_rfl
  f267 := Tryd.func84.trans (congrArg some (by kernel_rfl))
  f314 := Tryd.func93.trans (congrArg some (by kernel_rfl))
  t3 := Tryd.underlying3
  a3 := Tryd.isAgg3
  z3 := Tryd.sizeOf3
  v3 := Tryd.zeroValue3
  t4 := Tryd.underlying4
  a4 := Tryd.isAgg4
  z4 := Tryd.sizeOf4
  v4 := Tryd.zeroValue4
  t5 := Tryd.underlying5
  a5 := Tryd.isAgg5
  z5 := Tryd.sizeOf5
  v5 := Tryd.zeroValue5
  t9 := Tryd.underlying9
  a9 := Tryd.isAgg9
  z9 := Tryd.sizeOf9
  v9 := Tryd.zeroValue9
  t46 := Tryd.underlying76
  a46 := Tryd.isAgg76
  z46 := Tryd.sizeOf76
  v46 := Tryd.zeroValue76
  t51 := Tryd.underlying75
  a51 := Tryd.isAgg75
  z51 := Tryd.sizeOf75
  v51 := Tryd.zeroValue75
  t146 := Tryd.underlying110
  a146 := Tryd.isAgg110
  z146 := Tryd.sizeOf110
  v146 := Tryd.zeroValue110 }
open Go.RowKit Go.Lib in
theorem Tryd.bytealg_IndexRabinKarp (s sep : ByteArray) (h1 : 1 ≤ sep.size) (h2 : sep.size ≤ s.size) (hs : s.size < 4294967281) (w : World) :
    Calls Tryd.prog 84 #[.string s, .string sep] w fun e w' => e = .returned (.int .i64 (Lib.index s.data.toList sep.data.toList)) ∧ w' = w := Any.bytealg_IndexRabinKarp Tryd.lays267 s sep h1 h2 hs w
def Tryd.lays219_ren : Go.Shelf.Ren := ⟨fun | 219 => 67 | 217 => 81 | 225 => 82 | 224 => 83 | 267 => 84 | 266 => 92 | 314 => 93 | n => n, fun | 9 => 9 | 3 => 3 | 4 => 4 | 5 => 5 | 46 => 76 | 146 => 110 | 51 => 75 | n => n, fun | 1 => 0 | n => n⟩
theorem Tryd.lays219 : Go.Proofs.Lays.n219 Tryd.prog Tryd.lays219_ren := {
  mixed := by kernel_rfl
  f217 := Tryd.func81.trans (congrArg some (by kernel_rfl))
  f219 := Tryd.func67.trans (congrArg some (by kernel_rfl))
  f224 := Tryd.func83.trans (congrArg some (by kernel_rfl))
  f225 := Tryd.func82.trans (congrArg some (by kernel_rfl))
  f266 := Tryd.func92.trans (congrArg some (by kernel_rfl))
  f267 := Tryd.func84.trans (congrArg some (by kernel_rfl))
  f314 := Tryd.func93.trans (congrArg some (by kernel_rfl))
  t3 := Tryd.underlying3
  a3 := Tryd.isAgg3
  z3 := Tryd.sizeOf3
  v3 := Tryd.zeroValue3
  t4 := Tryd.underlying4
  a4 := Tryd.isAgg4
  z4 := Tryd.sizeOf4
  v4 := Tryd.zeroValue4
  t5 := Tryd.underlying5
  a5 := Tryd.isAgg5
  z5 := Tryd.sizeOf5
  v5 := Tryd.zeroValue5
  t9 := Tryd.underlying9
  a9 := Tryd.isAgg9
  z9 := Tryd.sizeOf9
  v9 := Tryd.zeroValue9
  t46 := Tryd.underlying76
  a46 := Tryd.isAgg76
  z46 := Tryd.sizeOf76
  v46 := Tryd.zeroValue76
  t51 := Tryd.underlying75
  a51 := Tryd.isAgg75
  z51 := Tryd.sizeOf75
  v51 := Tryd.zeroValue75
  t146 := Tryd.underlying110
  a146 := Tryd.isAgg110
  z146 := Tryd.sizeOf110
  v146 := Tryd.zeroValue110
  g1 := by kernel_rfl }
open Go.RowKit Go.Lib in
/-- internal/stringslite.Index (what strings.Index calls) AT A substr OF ONE BYTE c: IT RETURNS 'Lib.indexByte s c'; the world is as it was. (LAID: no walk: one application.) -/
theorem Tryd.stringslite_Index_one (s : ByteArray) (c : UInt8) (w : World) :
    Calls Tryd.prog 67 #[.string s, .string ⟨#[c]⟩] w fun e w' => e = .returned (.int .i64 (Lib.indexByte s.data.toList c)) ∧ w' = w := Any.stringslite_Index_one Tryd.lays219 s c w
open Go.RowKit Go.Lib in
/-- internal/stringslite.Index (what strings.Index calls) AT A substr OF WHATEVER LENGTH: IT RETURNS 'Lib.index s substr'; the world is as it was. 'm': what internal/bytealg.MaxLen holds: whatever. (LAID: no walk: one application.) -/
theorem Tryd.stringslite_Index (s sub : ByteArray) (m : Int) (w : World) (hs : s.size < 4294967281) (hm : w.cell? ⟨0, 0, none⟩ = some (.int .i64 m)) :
    Calls Tryd.prog 67 #[.string s, .string sub] w fun e w' => e = .returned (.int .i64 (Lib.index s.data.toList sub.data.toList)) ∧ w' = w := Any.stringslite_Index Tryd.lays219 s sub m w hs hm
def Tryd.lays143_ren : Go.Shelf.Ren := ⟨fun | 143 => 50 | 219 => 67 | 217 => 81 | 225 => 82 | 224 => 83 | 267 => 84 | 266 => 92 | 314 => 93 | n => n, fun | 9 => 9 | 3 => 3 | 4 => 4 | 5 => 5 | 46 => 76 | 146 => 110 | 51 => 75 | n => n, fun | 1 => 0 | n => n⟩
theorem Tryd.lays143 : Go.Proofs.Lays.n143 Tryd.prog Tryd.lays143_ren := {
  mixed := by kernel_rfl
  f143 := Tryd.func50.trans (congrArg some (by kernel_rfl))
  f217 := Tryd.func81.trans (congrArg some (by kernel_rfl))
  f219 := Tryd.func67.trans (congrArg some (by kernel_rfl))
  f224 := Tryd.func83.trans (congrArg some (by kernel_rfl))
  f225 := Tryd.func82.trans (congrArg some (by kernel_rfl))
  f266 := Tryd.func92.trans (congrArg some (by kernel_rfl))
  f267 := Tryd.func84.trans (congrArg some (by kernel_rfl))
  f314 := Tryd.func93.trans (congrArg some (by kernel_rfl))
  t3 := Tryd.underlying3
  a3 := Tryd.isAgg3
  z3 := Tryd.sizeOf3
  v3 := Tryd.zeroValue3
  t4 := Tryd.underlying4
  a4 := Tryd.isAgg4
  z4 := Tryd.sizeOf4
  v4 := Tryd.zeroValue4
  t5 := Tryd.underlying5
  a5 := Tryd.isAgg5
  z5 := Tryd.sizeOf5
  v5 := Tryd.zeroValue5
  t9 := Tryd.underlying9
  a9 := Tryd.isAgg9
  z9 := Tryd.sizeOf9
  v9 := Tryd.zeroValue9
  t46 := Tryd.underlying76
  a46 := Tryd.isAgg76
  z46 := Tryd.sizeOf76
  v46 := Tryd.zeroValue76
  t51 := Tryd.underlying75
  a51 := Tryd.isAgg75
  z51 := Tryd.sizeOf75
  v51 := Tryd.zeroValue75
  t146 := Tryd.underlying110
  a146 := Tryd.isAgg110
  z146 := Tryd.sizeOf110
  v146 := Tryd.zeroValue110
  g1 := by kernel_rfl }
open Go.RowKit Go.Lib in
/-- strings.Index: "Index returns the index of the first instance of substr in s, or -1 if substr is not present in s.": AT A substr OF ONE BYTE c: IT RETURNS 'Lib.indexByte s c'; the world is as it was. (LAID: no walk: one application.) -/
theorem Tryd.strings_Index_one (s : ByteArray) (c : UInt8) (w : World) :
    Calls Tryd.prog 50 #[.string s, .string ⟨#[c]⟩] w fun e w' => e = .returned (.int .i64 (Lib.indexByte s.data.toList c)) ∧ w' = w := Any.strings_Index_one Tryd.lays143 s c w
open Go.RowKit Go.Lib in
/-- strings.Index: "Index returns the index of the first instance of substr in s, or -1 if substr is not present in s.": IT RETURNS 'Lib.index s substr'; the world is as it was. (LAID: no walk: one application.) -/
theorem Tryd.strings_Index (s sub : ByteArray) (m : Int) (w : World) (hs : s.size < 4294967281) (hm : w.cell? ⟨0, 0, none⟩ = some (.int .i64 m)) :
    Calls Tryd.prog 50 #[.string s, .string sub] w fun e w' => e = .returned (.int .i64 (Lib.index s.data.toList sub.data.toList)) ∧ w' = w := Any.strings_Index Tryd.lays143 s sub m w hs hm
def Tryd.lays138_ren : Go.Shelf.Ren := ⟨fun | 138 => 29 | 195 => 48 | 218 => 49 | 143 => 50 | 219 => 67 | 217 => 81 | 225 => 82 | 224 => 83 | 267 => 84 | 266 => 92 | 314 => 93 | n => n, fun | 9 => 9 | 3 => 3 | 4 => 4 | 5 => 5 | 0 => 0 | 46 => 76 | 146 => 110 | 51 => 75 | n => n, fun | 1 => 0 | n => n⟩
theorem Tryd.lays138 : Go.Proofs.Lays.n138 Tryd.prog Tryd.lays138_ren := {
  mixed := by kernel_rfl
  f138 := Tryd.func29.trans (congrArg some (by kernel_rfl))
  f143 := Tryd.func50.trans (congrArg some (by kernel_rfl))
  f195 := Tryd.func48.trans (congrArg some (by kernel_rfl))
  f217 := Tryd.func81.trans (congrArg some (by kernel_rfl))
  f218 := Tryd.func49.trans (congrArg some (by kernel_rfl))
  f219 := Tryd.func67.trans (congrArg some (by kernel_rfl))
  f224 := Tryd.func83.trans (congrArg some (by kernel_rfl))
  f225 := Tryd.func82.trans (congrArg some (by kernel_rfl))
  f266 := Tryd.func92.trans (congrArg some (by kernel_rfl))
  f267 := Tryd.func84.trans (congrArg some (by kernel_rfl))
  f314 := Tryd.func93.trans (congrArg some (by kernel_rfl))
  t0 := Tryd.underlying0
  a0 := Tryd.isAgg0
  z0 := Tryd.sizeOf0
  v0 := Tryd.zeroValue0
  t3 := Tryd.underlying3
  a3 := Tryd.isAgg3
  z3 := Tryd.sizeOf3
  v3 := Tryd.zeroValue3
  t4 := Tryd.underlying4
  a4 := Tryd.isAgg4
  z4 := Tryd.sizeOf4
  v4 := Tryd.zeroValue4
  t5 := Tryd.underlying5
  a5 := Tryd.isAgg5
  z5 := Tryd.sizeOf5
  v5 := Tryd.zeroValue5
  t9 := Tryd.underlying9
  a9 := Tryd.isAgg9
  z9 := Tryd.sizeOf9
  v9 := Tryd.zeroValue9
  t46 := Tryd.underlying76
  a46 := Tryd.isAgg76
  z46 := Tryd.sizeOf76
  v46 := Tryd.zeroValue76
  t51 := Tryd.underlying75
  a51 := Tryd.isAgg75
  z51 := Tryd.sizeOf75
  v51 := Tryd.zeroValue75
  t146 := Tryd.underlying110
  a146 := Tryd.isAgg110
  z146 := Tryd.sizeOf110
  v146 := Tryd.zeroValue110
  g1 := by kernel_rfl }
open Go.RowKit Go.Lib in
/-- strings.Count AT A substr OF ONE BYTE ('hp'): "Count counts the number of non-overlapping instances of substr in s.": IT RETURNS 'Lib.countByte s (that byte)'; the world is as it was. ✋ NO CONTRACT HERE YET at an empty substr (utf8.RuneCountInString) or at a longer one (a loop over strings.Index). (LAID: no walk: one application.) -/
theorem Tryd.strings_Count_one (s : ByteArray) (c : UInt8) (w : World) :
    Calls Tryd.prog 29 #[.string s, .string ⟨#[c]⟩] w fun e w' => e = .returned (.int .i64 (Lib.countByte s.data.toList c)) ∧ w' = w := Any.strings_Count_one Tryd.lays138 s c w
open Go.RowKit Go.Lib in
/-- strings.Count AT A substr OF TWO BYTES OR MORE: "Count counts the number of non-overlapping instances of substr in s.": IT RETURNS 'Lib.count s substr'; the world is as it was. (LAID: no walk: one application.) -/
theorem Tryd.strings_Count (s sub : ByteArray) (m : Int) (w : World) (hs : s.size < 4294967281) (hm : w.cell? ⟨0, 0, none⟩ = some (.int .i64 m)) (h2 : 2 ≤ sub.size) :
    Calls Tryd.prog 29 #[.string s, .string sub] w fun e w' => e = .returned (.int .i64 (Lib.countB s sub)) ∧ w' = w := Any.strings_Count Tryd.lays138 s sub m w hs hm h2
def Tryd.laysM219_ren : Go.Shelf.Ren := ⟨fun | 219 => 67 | 217 => 81 | 225 => 82 | 224 => 83 | 267 => 84 | 266 => 92 | 314 => 93 | n => n, fun | 9 => 9 | 3 => 3 | 4 => 4 | 5 => 5 | 46 => 76 | 146 => 110 | 51 => 75 | n => n, fun | 1 => 0 | n => n⟩
theorem Tryd.laysM219 : Go.Proofs.LaysM.n219 Tryd.prog Tryd.laysM219_ren := {
  mixed := by kernel_rfl
  f217 := Tryd.func81.trans (congrArg some (by kernel_rfl))
  f219 := Tryd.func67.trans (congrArg some (by kernel_rfl))
  f224 := Tryd.func83.trans (congrArg some (by kernel_rfl))
  f225 := Tryd.func82.trans (congrArg some (by kernel_rfl))
  f266 := Tryd.func92.trans (congrArg some (by kernel_rfl))
  f267 := Tryd.func84.trans (congrArg some (by kernel_rfl))
  f314 := Tryd.func93.trans (congrArg some (by kernel_rfl))
  t3 := Tryd.underlying3
  a3 := Tryd.isAgg3
  z3 := Tryd.sizeOf3
  v3 := Tryd.zeroValue3
  t4 := Tryd.underlying4
  a4 := Tryd.isAgg4
  z4 := Tryd.sizeOf4
  v4 := Tryd.zeroValue4
  t5 := Tryd.underlying5
  a5 := Tryd.isAgg5
  z5 := Tryd.sizeOf5
  v5 := Tryd.zeroValue5
  t9 := Tryd.underlying9
  a9 := Tryd.isAgg9
  z9 := Tryd.sizeOf9
  v9 := Tryd.zeroValue9
  t46 := Tryd.underlying76
  a46 := Tryd.isAgg76
  z46 := Tryd.sizeOf76
  v46 := Tryd.zeroValue76
  t51 := Tryd.underlying75
  a51 := Tryd.isAgg75
  z51 := Tryd.sizeOf75
  v51 := Tryd.zeroValue75
  t146 := Tryd.underlying110
  a146 := Tryd.isAgg110
  z146 := Tryd.sizeOf110
  v146 := Tryd.zeroValue110
  g1 := by kernel_rfl
  i3 := by kernel_rfl
  i4 := by kernel_rfl
  i5 := by kernel_rfl
  i9 := by kernel_rfl
  i46 := by kernel_rfl
  i51 := by kernel_rfl
  i146 := by kernel_rfl
  m1 := by kernel_rfl
  s1_3 := fun w h => Go.Proofs.cell_of_shapedOpen_int (zero := #[.int .i64 0]) (t := 3) h (of_decide_eq_true (by kernel_rfl)) (by kernel_rfl) rfl (by kernel_rfl) (by kernel_rfl) Tryd.underlying3 }
open Go.RowKit Go.Lib in
theorem Tryd.stringslite_Index_shaped (s sub : ByteArray) (w : World) (h : w.ShapedOpen Tryd.prog) (hs : s.size < 4294967281) :
    Calls Tryd.prog 67 #[.string s, .string sub] w fun e w' => e = .returned (.int .i64 (Lib.index s.data.toList sub.data.toList)) ∧ w' = w := Any.stringslite_Index_shaped Tryd.laysM219 s sub w h hs
def Tryd.laysM143_ren : Go.Shelf.Ren := ⟨fun | 143 => 50 | 219 => 67 | 217 => 81 | 225 => 82 | 224 => 83 | 267 => 84 | 266 => 92 | 314 => 93 | n => n, fun | 9 => 9 | 3 => 3 | 4 => 4 | 5 => 5 | 46 => 76 | 146 => 110 | 51 => 75 | n => n, fun | 1 => 0 | n => n⟩
theorem Tryd.laysM143 : Go.Proofs.LaysM.n143 Tryd.prog Tryd.laysM143_ren := {
  mixed := by kernel_rfl
  f143 := Tryd.func50.trans (congrArg some (by kernel_rfl))
  f217 := Tryd.func81.trans (congrArg some (by kernel_rfl))
  f219 := Tryd.func67.trans (congrArg some (by kernel_rfl))
  f224 := Tryd.func83.trans (congrArg some (by kernel_rfl))
  f225 := Tryd.func82.trans (congrArg some (by kernel_rfl))
  f266 := Tryd.func92.trans (congrArg some (by kernel_rfl))
  f267 := Tryd.func84.trans (congrArg some (by kernel_rfl))
  f314 := Tryd.func93.trans (congrArg some (by kernel_rfl))
  t3 := Tryd.underlying3
  a3 := Tryd.isAgg3
  z3 := Tryd.sizeOf3
  v3 := Tryd.zeroValue3
  t4 := Tryd.underlying4
  a4 := Tryd.isAgg4
  z4 := Tryd.sizeOf4
  v4 := Tryd.zeroValue4
  t5 := Tryd.underlying5
  a5 := Tryd.isAgg5
  z5 := Tryd.sizeOf5
  v5 := Tryd.zeroValue5
  t9 := Tryd.underlying9
  a9 := Tryd.isAgg9
  z9 := Tryd.sizeOf9
  v9 := Tryd.zeroValue9
  t46 := Tryd.underlying76
  a46 := Tryd.isAgg76
  z46 := Tryd.sizeOf76
  v46 := Tryd.zeroValue76
  t51 := Tryd.underlying75
  a51 := Tryd.isAgg75
  z51 := Tryd.sizeOf75
  v51 := Tryd.zeroValue75
  t146 := Tryd.underlying110
  a146 := Tryd.isAgg110
  z146 := Tryd.sizeOf110
  v146 := Tryd.zeroValue110
  g1 := by kernel_rfl
  i3 := by kernel_rfl
  i4 := by kernel_rfl
  i5 := by kernel_rfl
  i9 := by kernel_rfl
  i46 := by kernel_rfl
  i51 := by kernel_rfl
  i146 := by kernel_rfl
  m1 := by kernel_rfl
  s1_3 := fun w h => Go.Proofs.cell_of_shapedOpen_int (zero := #[.int .i64 0]) (t := 3) h (of_decide_eq_true (by kernel_rfl)) (by kernel_rfl) rfl (by kernel_rfl) (by kernel_rfl) Tryd.underlying3 }
open Go.RowKit Go.Lib in
theorem Tryd.strings_Index_shaped (s sub : ByteArray) (w : World) (h : w.ShapedOpen Tryd.prog) (hs : s.size < 4294967281) :
    Calls Tryd.prog 50 #[.string s, .string sub] w fun e w' => e = .returned (.int .i64 (Lib.index s.data.toList sub.data.toList)) ∧ w' = w := Any.strings_Index_shaped Tryd.laysM143 s sub w h hs
def Tryd.laysM138_ren : Go.Shelf.Ren := ⟨fun | 138 => 29 | 195 => 48 | 218 => 49 | 143 => 50 | 219 => 67 | 217 => 81 | 225 => 82 | 224 => 83 | 267 => 84 | 266 => 92 | 314 => 93 | n => n, fun | 9 => 9 | 3 => 3 | 4 => 4 | 5 => 5 | 0 => 0 | 46 => 76 | 146 => 110 | 51 => 75 | n => n, fun | 1 => 0 | n => n⟩
theorem Tryd.laysM138 : Go.Proofs.LaysM.n138 Tryd.prog Tryd.laysM138_ren := {
  mixed := by kernel_rfl
  f138 := Tryd.func29.trans (congrArg some (by kernel_rfl))
  f143 := Tryd.func50.trans (congrArg some (by kernel_rfl))
  f195 := Tryd.func48.trans (congrArg some (by kernel_rfl))
  f217 := Tryd.func81.trans (congrArg some (by kernel_rfl))
  f218 := Tryd.func49.trans (congrArg some (by kernel_rfl))
  f219 := Tryd.func67.trans (congrArg some (by kernel_rfl))
  f224 := Tryd.func83.trans (congrArg some (by kernel_rfl))
  f225 := Tryd.func82.trans (congrArg some (by kernel_rfl))
  f266 := Tryd.func92.trans (congrArg some (by kernel_rfl))
  f267 := Tryd.func84.trans (congrArg some (by kernel_rfl))
  f314 := Tryd.func93.trans (congrArg some (by kernel_rfl))
  t0 := Tryd.underlying0
  a0 := Tryd.isAgg0
  z0 := Tryd.sizeOf0
  v0 := Tryd.zeroValue0
  t3 := Tryd.underlying3
  a3 := Tryd.isAgg3
  z3 := Tryd.sizeOf3
  v3 := Tryd.zeroValue3
  t4 := Tryd.underlying4
  a4 := Tryd.isAgg4
  z4 := Tryd.sizeOf4
  v4 := Tryd.zeroValue4
  t5 := Tryd.underlying5
  a5 := Tryd.isAgg5
  z5 := Tryd.sizeOf5
  v5 := Tryd.zeroValue5
  t9 := Tryd.underlying9
  a9 := Tryd.isAgg9
  z9 := Tryd.sizeOf9
  v9 := Tryd.zeroValue9
  t46 := Tryd.underlying76
  a46 := Tryd.isAgg76
  z46 := Tryd.sizeOf76
  v46 := Tryd.zeroValue76
  t51 := Tryd.underlying75
  a51 := Tryd.isAgg75
  z51 := Tryd.sizeOf75
  v51 := Tryd.zeroValue75
  t146 := Tryd.underlying110
  a146 := Tryd.isAgg110
  z146 := Tryd.sizeOf110
  v146 := Tryd.zeroValue110
  g1 := by kernel_rfl
  i0 := by kernel_rfl
  i3 := by kernel_rfl
  i4 := by kernel_rfl
  i5 := by kernel_rfl
  i9 := by kernel_rfl
  i46 := by kernel_rfl
  i51 := by kernel_rfl
  i146 := by kernel_rfl
  m1 := by kernel_rfl
  s1_3 := fun w h => Go.Proofs.cell_of_shapedOpen_int (zero := #[.int .i64 0]) (t := 3) h (of_decide_eq_true (by kernel_rfl)) (by kernel_rfl) rfl (by kernel_rfl) (by kernel_rfl) Tryd.underlying3 }
open Go.RowKit Go.Lib in
theorem Tryd.strings_Count_shaped (s sub : ByteArray) (w : World) (h : w.ShapedOpen Tryd.prog) (hs : s.size < 4294967281) (h2 : 2 ≤ sub.size) :
    Calls Tryd.prog 29 #[.string s, .string sub] w fun e w' => e = .returned (.int .i64 (Lib.countB s sub)) ∧ w' = w := Any.strings_Count_shaped Tryd.laysM138 s sub w h hs h2
def Tryd.lays206_ren : Go.Shelf.Ren := ⟨fun | 206 => 77 | n => n, fun | 9 => 9 | 4 => 4 | 3 => 3 | n => n, fun | n => n⟩
theorem Tryd.lays206 : Go.Proofs.Lays.n206 Tryd.prog Tryd.lays206_ren := {
  mixed := by kernel_rfl
  f206 := Tryd.func77.trans (congrArg some (by kernel_rfl))
  t3 := Tryd.underlying3
  a3 := Tryd.isAgg3
  z3 := Tryd.sizeOf3
  v3 := Tryd.zeroValue3
  t4 := Tryd.underlying4
  a4 := Tryd.isAgg4
  z4 := Tryd.sizeOf4
  v4 := Tryd.zeroValue4
  t9 := Tryd.underlying9
  a9 := Tryd.isAgg9
  z9 := Tryd.sizeOf9
  v9 := Tryd.zeroValue9 }
open Go.RowKit Go.Lib in
/-- internal/stringslite.HasPrefix (what strings.HasPrefix calls). (LAID: no walk: one application.) -/
theorem Tryd.stringslite_HasPrefix (s p : ByteArray) (w : World) :
    Calls Tryd.prog 77 #[.string s, .string p] w fun e w' => e = .returned (.bool (Lib.hasPrefix s.data.toList p.data.toList)) ∧ w' = w := Any.stringslite_HasPrefix Tryd.lays206 s p w
def Tryd.lays99_ren : Go.Shelf.Ren := ⟨fun | 99 => 60 | 206 => 77 | n => n, fun | 9 => 9 | 4 => 4 | 3 => 3 | n => n, fun | n => n⟩
theorem Tryd.lays99 : Go.Proofs.Lays.n99 Tryd.prog Tryd.lays99_ren := {
  mixed := by kernel_rfl
  f99 := Tryd.func60.trans (congrArg some (by kernel_rfl))
  f206 := Tryd.func77.trans (congrArg some (by kernel_rfl))
  t3 := Tryd.underlying3
  a3 := Tryd.isAgg3
  z3 := Tryd.sizeOf3
  v3 := Tryd.zeroValue3
  t4 := Tryd.underlying4
  a4 := Tryd.isAgg4
  z4 := Tryd.sizeOf4
  v4 := Tryd.zeroValue4
  t9 := Tryd.underlying9
  a9 := Tryd.isAgg9
  z9 := Tryd.sizeOf9
  v9 := Tryd.zeroValue9 }
open Go.RowKit Go.Lib in
/-- strings.HasPrefix: "HasPrefix reports whether the string s begins with prefix.": IT RETURNS 'Lib.hasPrefix s prefix'; the world is as it was. (LAID: no walk: one application.) -/
theorem Tryd.strings_HasPrefix (s p : ByteArray) (w : World) :
    Calls Tryd.prog 60 #[.string s, .string p] w fun e w' => e = .returned (.bool (Lib.hasPrefix s.data.toList p.data.toList)) ∧ w' = w := Any.strings_HasPrefix Tryd.lays99 s p w
open Go.RowKit Go.Lib in
/-- strings.Count at whatever sep that is not empty: the two roads under one statement. (LAID: no walk: one application.) -/
theorem Tryd.strings_Count_any (s sep : ByteArray) (m : Int) (w : World) (hs : s.size < 4294967281) (hm : w.cell? ⟨0, 0, none⟩ = some (.int .i64 m)) (h1 : 1 ≤ sep.size) :
    Calls Tryd.prog 29 #[.string s, .string sep] w fun e w' => e = .returned (.int .i64 (Lib.countB s sep)) ∧ w' = w := Any.strings_Count_any Tryd.lays138 s sep m w hs hm h1
def Tryd.lays221_ren : Go.Shelf.Ren := ⟨fun | 221 => 64 | 268 => 78 | 138 => 29 | 143 => 50 | 195 => 48 | 197 => 91 | 218 => 49 | 219 => 67 | 260 => 96 | 217 => 81 | 225 => 82 | 224 => 83 | 267 => 84 | 266 => 92 | 314 => 93 | n => n, fun | 9 => 9 | 3 => 3 | 31 => 32 | 4 => 4 | 0 => 0 | 105 => 121 | 21 => 21 | 5 => 5 | 46 => 76 | 119 => 127 | 139 => 130 | 138 => 129 | 146 => 110 | 51 => 75 | n => n, fun | 1 => 0 | 3 => 6 | 4 => 7 | n => n⟩
theorem Tryd.lays221 : Go.Proofs.Lays.n221 Tryd.prog Tryd.lays221_ren := {
  mixed := by kernel_rfl
  f138 := Tryd.func29.trans (congrArg some (by kernel_rfl))
  f143 := Tryd.func50.trans (congrArg some (by kernel_rfl))
  f195 := Tryd.func48.trans (congrArg some (by kernel_rfl))
  f197 := Tryd.func91.trans (congrArg some (by kernel_rfl))
  f217 := Tryd.func81.trans (congrArg some (by kernel_rfl))
  f218 := Tryd.func49.trans (congrArg some (by kernel_rfl))
  f219 := Tryd.func67.trans (congrArg some (by kernel_rfl))
  f221 := Tryd.func64.trans (congrArg some (by kernel_rfl))
  f224 := Tryd.func83.trans (congrArg some (by kernel_rfl))
  f225 := Tryd.func82.trans (congrArg some (by kernel_rfl))
  f260 := Tryd.func96.trans (congrArg some (by kernel_rfl))
  f266 := Tryd.func92.trans (congrArg some (by kernel_rfl))
  f267 := Tryd.func84.trans (congrArg some (by kernel_rfl))
  f268 := Tryd.func78.trans (congrArg some (by kernel_rfl))
  f314 := Tryd.func93.trans (congrArg some (by kernel_rfl))
  t0 := Tryd.underlying0
  a0 := Tryd.isAgg0
  z0 := Tryd.sizeOf0
  v0 := Tryd.zeroValue0
  t3 := Tryd.underlying3
  a3 := Tryd.isAgg3
  z3 := Tryd.sizeOf3
  v3 := Tryd.zeroValue3
  t4 := Tryd.underlying4
  a4 := Tryd.isAgg4
  z4 := Tryd.sizeOf4
  v4 := Tryd.zeroValue4
  t5 := Tryd.underlying5
  a5 := Tryd.isAgg5
  z5 := Tryd.sizeOf5
  v5 := Tryd.zeroValue5
  t9 := Tryd.underlying9
  a9 := Tryd.isAgg9
  z9 := Tryd.sizeOf9
  v9 := Tryd.zeroValue9
  t21 := Tryd.underlying21
  a21 := Tryd.isAgg21
  z21 := Tryd.sizeOf21
  v21 := Tryd.zeroValue21
  t31 := Tryd.underlying32
  a31 := Tryd.isAgg32
  z31 := Tryd.sizeOf32
  v31 := Tryd.zeroValue32
  t46 := Tryd.underlying76
  a46 := Tryd.isAgg76
  z46 := Tryd.sizeOf76
  v46 := Tryd.zeroValue76
  t51 := Tryd.underlying75
  a51 := Tryd.isAgg75
  z51 := Tryd.sizeOf75
  v51 := Tryd.zeroValue75
  t105 := Tryd.underlying121
  a105 := Tryd.isAgg121
  z105 := Tryd.sizeOf121
  v105 := Tryd.zeroValue121
  t119 := Tryd.underlying127
  a119 := Tryd.isAgg127
  z119 := Tryd.sizeOf127
  t138 := Tryd.underlying129
  a138 := Tryd.isAgg129
  z138 := Tryd.sizeOf129
  v138 := Tryd.zeroValue129
  t139 := Tryd.underlying130
  a139 := Tryd.isAgg130
  z139 := Tryd.sizeOf130
  v139 := Tryd.zeroValue130
  t146 := Tryd.underlying110
  a146 := Tryd.isAgg110
  z146 := Tryd.sizeOf110
  v146 := Tryd.zeroValue110
  g1 := by kernel_rfl
  g3 := by kernel_rfl
  g4 := by kernel_rfl }
open Go.RowKit Go.Lib in
theorem Tryd.strings_genSplit (s sep : ByteArray) (sv : Nat) (n : Int) (N : Nat) (m : Int) (w : World) (hs : s.size < 4294967281) (hm : w.cell? ⟨0, 0, none⟩ = some (.int .i64 m)) (h1 : 1 ≤ sep.size) (hsv : sv ≤ sep.size) (hn0 : n ≠ 0) (hn63 : n ≤ 9223372036854775807) (hN : (N : Int) = min (if n < 0 then (Lib.countB s sep : Int) + 1 else n) ((s.size : Int) + 1)) :
    Calls Tryd.prog 64 #[.string s, .string sep, .int .i64 sv, .int .i64 n] w fun e w' =>
      e = .returned (.slice (some ⟨w.heap.size, 0, none⟩) (Lib.splitB sep sv (N - 1) s).length N) ∧ w' = w.alloc (.cells (Lib.cellsOf (Lib.splitB sep sv (N - 1) s) N) 9) := Any.strings_genSplit Tryd.lays221 (by kernel_rfl) s sep sv n N m w hs hm h1 hsv hn0 hn63 hN
def Tryd.lays146_ren : Go.Shelf.Ren := ⟨fun | 146 => 44 | 221 => 64 | 268 => 78 | 138 => 29 | 143 => 50 | 195 => 48 | 197 => 91 | 218 => 49 | 219 => 67 | 260 => 96 | 217 => 81 | 225 => 82 | 224 => 83 | 267 => 84 | 266 => 92 | 314 => 93 | n => n, fun | 9 => 9 | 31 => 32 | 3 => 3 | 4 => 4 | 0 => 0 | 105 => 121 | 21 => 21 | 5 => 5 | 46 => 76 | 119 => 127 | 139 => 130 | 138 => 129 | 146 => 110 | 51 => 75 | n => n, fun | 1 => 0 | 3 => 6 | 4 => 7 | n => n⟩
theorem Tryd.lays146 : Go.Proofs.Lays.n146 Tryd.prog Tryd.lays146_ren := {
  mixed := by kernel_rfl
  f138 := Tryd.func29.trans (congrArg some (by kernel_rfl))
  f143 := Tryd.func50.trans (congrArg some (by kernel_rfl))
  f146 := Tryd.func44.trans (congrArg some (by kernel_rfl))
  f195 := Tryd.func48.trans (congrArg some (by kernel_rfl))
  f197 := Tryd.func91.trans (congrArg some (by kernel_rfl))
  f217 := Tryd.func81.trans (congrArg some (by kernel_rfl))
  f218 := Tryd.func49.trans (congrArg some (by kernel_rfl))
  f219 := Tryd.func67.trans (congrArg some (by kernel_rfl))
  f221 := Tryd.func64.trans (congrArg some (by kernel_rfl))
  f224 := Tryd.func83.trans (congrArg some (by kernel_rfl))
  f225 := Tryd.func82.trans (congrArg some (by kernel_rfl))
  f260 := Tryd.func96.trans (congrArg some (by kernel_rfl))
  f266 := Tryd.func92.trans (congrArg some (by kernel_rfl))
  f267 := Tryd.func84.trans (congrArg some (by kernel_rfl))
  f268 := Tryd.func78.trans (congrArg some (by kernel_rfl))
  f314 := Tryd.func93.trans (congrArg some (by kernel_rfl))
  t0 := Tryd.underlying0
  a0 := Tryd.isAgg0
  z0 := Tryd.sizeOf0
  v0 := Tryd.zeroValue0
  t3 := Tryd.underlying3
  a3 := Tryd.isAgg3
  z3 := Tryd.sizeOf3
  v3 := Tryd.zeroValue3
  t4 := Tryd.underlying4
  a4 := Tryd.isAgg4
  z4 := Tryd.sizeOf4
  v4 := Tryd.zeroValue4
  t5 := Tryd.underlying5
  a5 := Tryd.isAgg5
  z5 := Tryd.sizeOf5
  v5 := Tryd.zeroValue5
  t9 := Tryd.underlying9
  a9 := Tryd.isAgg9
  z9 := Tryd.sizeOf9
  v9 := Tryd.zeroValue9
  t21 := Tryd.underlying21
  a21 := Tryd.isAgg21
  z21 := Tryd.sizeOf21
  v21 := Tryd.zeroValue21
  t31 := Tryd.underlying32
  a31 := Tryd.isAgg32
  z31 := Tryd.sizeOf32
  v31 := Tryd.zeroValue32
  t46 := Tryd.underlying76
  a46 := Tryd.isAgg76
  z46 := Tryd.sizeOf76
  v46 := Tryd.zeroValue76
  t51 := Tryd.underlying75
  a51 := Tryd.isAgg75
  z51 := Tryd.sizeOf75
  v51 := Tryd.zeroValue75
  t105 := Tryd.underlying121
  a105 := Tryd.isAgg121
  z105 := Tryd.sizeOf121
  v105 := Tryd.zeroValue121
  t119 := Tryd.underlying127
  a119 := Tryd.isAgg127
  z119 := Tryd.sizeOf127
  t138 := Tryd.underlying129
  a138 := Tryd.isAgg129
  z138 := Tryd.sizeOf129
  v138 := Tryd.zeroValue129
  t139 := Tryd.underlying130
  a139 := Tryd.isAgg130
  z139 := Tryd.sizeOf130
  v139 := Tryd.zeroValue130
  t146 := Tryd.underlying110
  a146 := Tryd.isAgg110
  z146 := Tryd.sizeOf110
  v146 := Tryd.zeroValue110
  g1 := by kernel_rfl
  g3 := by kernel_rfl
  g4 := by kernel_rfl }
open Go.RowKit Go.Lib in
/-- strings.Split. (LAID: no walk: one application.) -/
theorem Tryd.strings_Split (s sep : ByteArray) (m : Int) (w : World) (hs : s.size < 4294967281) (hm : w.cell? ⟨0, 0, none⟩ = some (.int .i64 m)) (h1 : 1 ≤ sep.size) :
    Calls Tryd.prog 44 #[.string s, .string sep] w fun e w' =>
      e = .returned (.slice (some ⟨w.heap.size, 0, none⟩) (Lib.countB s sep + 1) (Lib.countB s sep + 1)) ∧ w' = w.alloc (.cells ((Lib.splitB sep 0 (Lib.countB s sep) s).map Value.string).toArray 9) := Any.strings_Split Tryd.lays146 (by kernel_rfl) s sep m w hs hm h1
def Tryd.laysM146_ren : Go.Shelf.Ren := ⟨fun | 146 => 44 | 221 => 64 | 268 => 78 | 138 => 29 | 143 => 50 | 195 => 48 | 197 => 91 | 218 => 49 | 219 => 67 | 260 => 96 | 217 => 81 | 225 => 82 | 224 => 83 | 267 => 84 | 266 => 92 | 314 => 93 | n => n, fun | 9 => 9 | 31 => 32 | 3 => 3 | 4 => 4 | 0 => 0 | 105 => 121 | 21 => 21 | 5 => 5 | 46 => 76 | 119 => 127 | 139 => 130 | 138 => 129 | 146 => 110 | 51 => 75 | n => n, fun | 1 => 0 | 3 => 6 | 4 => 7 | n => n⟩
theorem Tryd.laysM146 : Go.Proofs.LaysM.n146 Tryd.prog Tryd.laysM146_ren := {
  mixed := by kernel_rfl
  f138 := Tryd.func29.trans (congrArg some (by kernel_rfl))
  f143 := Tryd.func50.trans (congrArg some (by kernel_rfl))
  f146 := Tryd.func44.trans (congrArg some (by kernel_rfl))
  f195 := Tryd.func48.trans (congrArg some (by kernel_rfl))
  f197 := Tryd.func91.trans (congrArg some (by kernel_rfl))
  f217 := Tryd.func81.trans (congrArg some (by kernel_rfl))
  f218 := Tryd.func49.trans (congrArg some (by kernel_rfl))
  f219 := Tryd.func67.trans (congrArg some (by kernel_rfl))
  f221 := Tryd.func64.trans (congrArg some (by kernel_rfl))
  f224 := Tryd.func83.trans (congrArg some (by kernel_rfl))
  f225 := Tryd.func82.trans (congrArg some (by kernel_rfl))
  f260 := Tryd.func96.trans (congrArg some (by kernel_rfl))
  f266 := Tryd.func92.trans (congrArg some (by kernel_rfl))
  f267 := Tryd.func84.trans (congrArg some (by kernel_rfl))
  f268 := Tryd.func78.trans (congrArg some (by kernel_rfl))
  f314 := Tryd.func93.trans (congrArg some (by kernel_rfl))
  t0 := Tryd.underlying0
  a0 := Tryd.isAgg0
  z0 := Tryd.sizeOf0
  v0 := Tryd.zeroValue0
  t3 := Tryd.underlying3
  a3 := Tryd.isAgg3
  z3 := Tryd.sizeOf3
  v3 := Tryd.zeroValue3
  t4 := Tryd.underlying4
  a4 := Tryd.isAgg4
  z4 := Tryd.sizeOf4
  v4 := Tryd.zeroValue4
  t5 := Tryd.underlying5
  a5 := Tryd.isAgg5
  z5 := Tryd.sizeOf5
  v5 := Tryd.zeroValue5
  t9 := Tryd.underlying9
  a9 := Tryd.isAgg9
  z9 := Tryd.sizeOf9
  v9 := Tryd.zeroValue9
  t21 := Tryd.underlying21
  a21 := Tryd.isAgg21
  z21 := Tryd.sizeOf21
  v21 := Tryd.zeroValue21
  t31 := Tryd.underlying32
  a31 := Tryd.isAgg32
  z31 := Tryd.sizeOf32
  v31 := Tryd.zeroValue32
  t46 := Tryd.underlying76
  a46 := Tryd.isAgg76
  z46 := Tryd.sizeOf76
  v46 := Tryd.zeroValue76
  t51 := Tryd.underlying75
  a51 := Tryd.isAgg75
  z51 := Tryd.sizeOf75
  v51 := Tryd.zeroValue75
  t105 := Tryd.underlying121
  a105 := Tryd.isAgg121
  z105 := Tryd.sizeOf121
  v105 := Tryd.zeroValue121
  t119 := Tryd.underlying127
  a119 := Tryd.isAgg127
  z119 := Tryd.sizeOf127
  t138 := Tryd.underlying129
  a138 := Tryd.isAgg129
  z138 := Tryd.sizeOf129
  v138 := Tryd.zeroValue129
  t139 := Tryd.underlying130
  a139 := Tryd.isAgg130
  z139 := Tryd.sizeOf130
  v139 := Tryd.zeroValue130
  t146 := Tryd.underlying110
  a146 := Tryd.isAgg110
  z146 := Tryd.sizeOf110
  v146 := Tryd.zeroValue110
  g1 := by kernel_rfl
  g3 := by kernel_rfl
  g4 := by kernel_rfl
  i0 := by kernel_rfl
  i3 := by kernel_rfl
  i4 := by kernel_rfl
  i5 := by kernel_rfl
  i9 := by kernel_rfl
  i21 := by kernel_rfl
  i31 := by kernel_rfl
  i46 := by kernel_rfl
  i51 := by kernel_rfl
  i105 := by kernel_rfl
  i138 := by kernel_rfl
  i139 := by kernel_rfl
  i146 := by kernel_rfl
  m1 := by kernel_rfl
  s1_3 := fun w h => Go.Proofs.cell_of_shapedOpen_int (zero := #[.int .i64 0]) (t := 3) h (of_decide_eq_true (by kernel_rfl)) (by kernel_rfl) rfl (by kernel_rfl) (by kernel_rfl) Tryd.underlying3
  m3 := by kernel_rfl
  m4 := by kernel_rfl }
open Go.RowKit Go.Lib in
/-- strings.Split, sep not empty. (LAID: no walk: one application.) -/
theorem Tryd.strings_Split_shaped (s sep : ByteArray) (w : World) (h : w.ShapedOpen Tryd.prog) (hs : s.size < 4294967281) (h1 : 1 ≤ sep.size) :
    Calls Tryd.prog 44 #[.string s, .string sep] w fun e w' =>
      e = .returned (.slice (some ⟨w.heap.size, 0, none⟩) (Lib.countB s sep + 1) (Lib.countB s sep + 1)) ∧ w' = w.alloc (.cells ((Lib.splitB sep 0 (Lib.countB s sep) s).map Value.string).toArray 9) := Any.strings_Split_shaped Tryd.laysM146 s sep w h hs h1
def Tryd.lays264_ren : Go.Shelf.Ren := ⟨fun | 264 => 63 | n => n, fun | 53 => 22 | 46 => 76 | n => n, fun | n => n⟩
theorem Tryd.lays264 : Go.Proofs.Lays.n264 Tryd.prog Tryd.lays264_ren := {
  mixed := by kernel_rfl
  f264 := Tryd.func63.trans (congrArg some (by kernel_rfl))
  t46 := Tryd.underlying76
  a46 := Tryd.isAgg76
  z46 := Tryd.sizeOf76
  v46 := Tryd.zeroValue76
  t53 := Tryd.underlying22
  a53 := Tryd.isAgg22
  z53 := Tryd.sizeOf22
  v53 := Tryd.zeroValue22 }
open Go.RowKit Go.Lib in
theorem Tryd.bits_Mul64 (x y : Nat) (hx : x < 18446744073709551616) (hy : y < 18446744073709551616) (w : World) :
    Calls Tryd.prog 63 #[.int .u64 x, .int .u64 y] w fun e w' => e = .returned (.tuple #[.int .u64 ((x * y / 18446744073709551616 : Nat) : Int), .int .u64 ((x * y % 18446744073709551616 : Nat) : Int)]) ∧ w' = w := Any.bits_Mul64 Tryd.lays264 x y hx hy w
def Tryd.lays212_ren : Go.Shelf.Ren := ⟨fun | 212 => 59 | 263 => 76 | 264 => 63 | n => n, fun | 46 => 76 | 51 => 75 | 146 => 110 | 53 => 22 | 148 => 90 | n => n, fun | n => n⟩
theorem Tryd.lays212 : Go.Proofs.Lays.n212 Tryd.prog Tryd.lays212_ren := {
  mixed := by kernel_rfl
  f212 := Tryd.func59.trans (congrArg some (by kernel_rfl))
  f263 := Tryd.func76.trans (congrArg some (by kernel_rfl))
  f264 := Tryd.func63.trans (congrArg some (by kernel_rfl))
  t46 := Tryd.underlying76
  a46 := Tryd.isAgg76
  z46 := Tryd.sizeOf76
  v46 := Tryd.zeroValue76
  t51 := Tryd.underlying75
  a51 := Tryd.isAgg75
  z51 := Tryd.sizeOf75
  v51 := Tryd.zeroValue75
  t53 := Tryd.underlying22
  a53 := Tryd.isAgg22
  z53 := Tryd.sizeOf22
  v53 := Tryd.zeroValue22
  t146 := Tryd.underlying110
  a146 := Tryd.isAgg110
  z146 := Tryd.sizeOf110
  v146 := Tryd.zeroValue110
  t148 := Tryd.underlying90
  a148 := Tryd.isAgg90
  z148 := Tryd.sizeOf90
  v148 := Tryd.zeroValue90 }
open Go.RowKit Go.Lib in
/-- math/bits.Mul: "Mul returns the full-width product of x and y": on a machine of 64 bits: Mul64's. (LAID: no walk: one application.) -/
theorem Tryd.bits_Mul (x y : Nat) (hx : x < 18446744073709551616) (hy : y < 18446744073709551616) (w : World) :
    Calls Tryd.prog 59 #[.int .u64 x, .int .u64 y] w fun e w' => e = .returned (.tuple #[.int .u64 ((x * y / 18446744073709551616 : Nat) : Int), .int .u64 ((x * y % 18446744073709551616 : Nat) : Int)]) ∧ w' = w := Any.bits_Mul Tryd.lays212 x y hx hy w
def Tryd.lays105_ren : Go.Shelf.Ren := ⟨fun | 105 => 40 | 212 => 59 | 99 => 60 | 165 => 45 | 166 => 46 | 170 => 61 | 169 => 47 | 263 => 76 | 264 => 63 | 206 => 77 | 240 => 65 | 241 => 66 | 276 => 79 | 277 => 80 | n => n, fun | 9 => 9 | 3 => 3 | 4 => 4 | 20 => 20 | 0 => 0 | 46 => 76 | 109 => 96 | 5 => 5 | 72 => 80 | 76 => 84 | 51 => 75 | 146 => 110 | 53 => 22 | 148 => 90 | 70 => 78 | 37 => 51 | 75 => 83 | 127 => 102 | 164 => 113 | 80 => 86 | n => n, fun | n => n⟩
theorem Tryd.lays105 : Go.Proofs.Lays.n105 Tryd.prog Tryd.lays105_ren := {
  mixed := by kernel_rfl
  f99 := Tryd.func60.trans (congrArg some (by kernel_rfl))
  f105 := Tryd.func40.trans (congrArg some (by kernel_rfl))
  f165 := Tryd.func45.trans (congrArg some (by kernel_rfl))
  f166 := Tryd.func46.trans (congrArg some (by kernel_rfl))
  f169 := Tryd.func47.trans (congrArg some (by kernel_rfl))
  f170 := Tryd.func61.trans (congrArg some (by kernel_rfl))
  f206 := Tryd.func77.trans (congrArg some (by kernel_rfl))
  f212 := Tryd.func59.trans (congrArg some (by kernel_rfl))
  f240 := Tryd.func65.trans (congrArg some (by kernel_rfl))
  f241 := Tryd.func66.trans (congrArg some (by kernel_rfl))
  f263 := Tryd.func76.trans (congrArg some (by kernel_rfl))
  f264 := Tryd.func63.trans (congrArg some (by kernel_rfl))
  f276 := Tryd.func79.trans (congrArg some (by kernel_rfl))
  f277 := Tryd.func80.trans (congrArg some (by kernel_rfl))
  t0 := Tryd.underlying0
  a0 := Tryd.isAgg0
  z0 := Tryd.sizeOf0
  v0 := Tryd.zeroValue0
  t3 := Tryd.underlying3
  a3 := Tryd.isAgg3
  z3 := Tryd.sizeOf3
  v3 := Tryd.zeroValue3
  t4 := Tryd.underlying4
  a4 := Tryd.isAgg4
  z4 := Tryd.sizeOf4
  v4 := Tryd.zeroValue4
  t5 := Tryd.underlying5
  a5 := Tryd.isAgg5
  z5 := Tryd.sizeOf5
  v5 := Tryd.zeroValue5
  t9 := Tryd.underlying9
  a9 := Tryd.isAgg9
  z9 := Tryd.sizeOf9
  v9 := Tryd.zeroValue9
  t20 := Tryd.underlying20
  a20 := Tryd.isAgg20
  z20 := Tryd.sizeOf20
  v20 := Tryd.zeroValue20
  t37 := Tryd.underlying51
  a37 := Tryd.isAgg51
  z37 := Tryd.sizeOf51
  v37 := Tryd.zeroValue51
  t46 := Tryd.underlying76
  a46 := Tryd.isAgg76
  z46 := Tryd.sizeOf76
  v46 := Tryd.zeroValue76
  t51 := Tryd.underlying75
  a51 := Tryd.isAgg75
  z51 := Tryd.sizeOf75
  v51 := Tryd.zeroValue75
  t53 := Tryd.underlying22
  a53 := Tryd.isAgg22
  z53 := Tryd.sizeOf22
  v53 := Tryd.zeroValue22
  t70 := Tryd.underlying78
  a70 := Tryd.isAgg78
  z70 := Tryd.sizeOf78
  v70 := Tryd.zeroValue78
  t72 := Tryd.underlying80
  a72 := Tryd.isAgg80
  z72 := Tryd.sizeOf80
  v72 := Tryd.zeroValue80
  t75 := Tryd.underlying83
  a75 := Tryd.isAgg83
  z75 := Tryd.sizeOf83
  v75 := Tryd.zeroValue83
  t76 := Tryd.underlying84
  a76 := Tryd.isAgg84
  z76 := Tryd.sizeOf84
  v76 := Tryd.zeroValue84
  t109 := Tryd.underlying96
  a109 := Tryd.isAgg96
  z109 := Tryd.sizeOf96
  v109 := Tryd.zeroValue96
  t127 := Tryd.underlying102
  a127 := Tryd.isAgg102
  z127 := Tryd.sizeOf102
  v127 := Tryd.zeroValue102
  t146 := Tryd.underlying110
  a146 := Tryd.isAgg110
  z146 := Tryd.sizeOf110
  v146 := Tryd.zeroValue110
  t148 := Tryd.underlying90
  a148 := Tryd.isAgg90
  z148 := Tryd.sizeOf90
  v148 := Tryd.zeroValue90
  t164 := Tryd.underlying113
  a164 := Tryd.isAgg113
  z164 := Tryd.sizeOf113
  v164 := Tryd.zeroValue113 }
theorem Tryd.Builder_Extra_105 : Builder.Extra Tryd.prog Tryd.lays105_ren := {
  sizeBuilder := by kernel_rfl
  liesBuilder := by kernel_rfl
  t5 := Tryd.underlying5
  a5 := Tryd.isAgg5
  z5 := Tryd.sizeOf5
  v5 := Tryd.zeroValue5
  infoByte := by kernel_rfl
  cellsByte := by kernel_rfl
  sizeByte := by kernel_rfl
  neB5 := by decide }
open Go.RowKit Go.Lib in
/-- THE MAIN CASE: at least two copies of a string that is not empty. (LAID: no walk: one application.) -/
theorem Tryd.strings_Repeat_main (s : ByteArray) (c : Nat) (w : World) (hc2 : 2 ≤ c) (hc : c ≤ 9223372036854775807) (hlen : s.size * c ≤ 140737488355328) (h0 : 0 < s.size) :
    Calls Tryd.prog 40 #[.string s, .int .i64 c] w fun e w' => e = .returned (.string ⟨(Lib.repeatL s.data.toList c).toArray⟩) ∧ Below w.heap.size w w' := Any.strings_Repeat_main Tryd.lays105 Tryd.Builder_Extra_105 s c w hc2 hc hlen h0
open Go.RowKit Go.Lib in
theorem Tryd.strings_Repeat_zero (s : ByteArray) (w : World) :
    Calls Tryd.prog 40 #[.string s, .int .i64 0] w fun e w' => e = .returned (.string ⟨#[]⟩) ∧ w' = w := Any.strings_Repeat_zero Tryd.lays105 s w
open Go.RowKit Go.Lib in
theorem Tryd.strings_Repeat_one (s : ByteArray) (w : World) :
    Calls Tryd.prog 40 #[.string s, .int .i64 1] w fun e w' => e = .returned (.string s) ∧ w' = w := Any.strings_Repeat_one Tryd.lays105 s w
open Go.RowKit Go.Lib in
/-- Copies of the empty string. (LAID: no walk: one application.) -/
theorem Tryd.strings_Repeat_empty (s : ByteArray) (c : Nat) (w : World) (hc2 : 2 ≤ c) (hc : c ≤ 9223372036854775807) (h0 : s.size = 0) :
    Calls Tryd.prog 40 #[.string s, .int .i64 c] w fun e w' => e = .returned (.string ⟨#[]⟩) ∧ w' = w := Any.strings_Repeat_empty Tryd.lays105 s c w hc2 hc h0
open Go.RowKit Go.Lib in
/-- count < 0: "It panics if count is negative". (LAID: no walk: one application.) -/
theorem Tryd.strings_Repeat_negative (s : ByteArray) (c : Int) (w : World) (hc : c < 0) :
    Calls Tryd.prog 40 #[.string s, .int .i64 c] w fun e w' => e = .panicked [{ v := repeatPanic Tryd.lays105_ren "strings: negative Repeat count", recovered := false }] ∧ w' = w := Any.strings_Repeat_negative Tryd.lays105 s c w hc
open Go.RowKit Go.Lib in
/-- len(s) * count is no int: ".. or if the result of (len(s) * count) overflows". (LAID: no walk: one application.) -/
theorem Tryd.strings_Repeat_overflow (s : ByteArray) (c : Nat) (w : World) (hc : c ≤ 9223372036854775807) (hs : s.size ≤ 9223372036854775807) (hbig : 9223372036854775807 < s.size * c) :
    Calls Tryd.prog 40 #[.string s, .int .i64 c] w fun e w' => e = .panicked [{ v := repeatPanic Tryd.lays105_ren "strings: Repeat output length overflow", recovered := false }] ∧ w' = w := Any.strings_Repeat_overflow Tryd.lays105 s c w hc hs hbig
open Go.RowKit Go.Lib in
/-- **strings.Repeat: count ≥ 0, the result within one allocation: count copies of s.** (LAID: no walk: one application.) -/
theorem Tryd.strings_Repeat (s : ByteArray) (c : Nat) (w : World) (hc : c ≤ 9223372036854775807) (hlen : s.size * c ≤ 140737488355328) :
    Calls Tryd.prog 40 #[.string s, .int .i64 c] w fun e w' => e = .returned (.string ⟨(Lib.repeatL s.data.toList c).toArray⟩) ∧ Below w.heap.size w w' := Any.strings_Repeat Tryd.lays105 Tryd.Builder_Extra_105 s c w hc hlen
def Tryd.lays260_ren : Go.Shelf.Ren := ⟨fun | 260 => 96 | n => n, fun | 9 => 9 | 21 => 21 | 3 => 3 | 4 => 4 | 5 => 5 | 119 => 127 | 0 => 0 | 46 => 76 | 139 => 130 | 138 => 129 | n => n, fun | 3 => 6 | 4 => 7 | n => n⟩
theorem Tryd.lays260 : Go.Proofs.Lays.n260 Tryd.prog Tryd.lays260_ren := {
  mixed := by kernel_rfl
  f260 := Tryd.func96.trans (congrArg some (by kernel_rfl))
  t0 := Tryd.underlying0
  a0 := Tryd.isAgg0
  z0 := Tryd.sizeOf0
  v0 := Tryd.zeroValue0
  t3 := Tryd.underlying3
  a3 := Tryd.isAgg3
  z3 := Tryd.sizeOf3
  v3 := Tryd.zeroValue3
  t4 := Tryd.underlying4
  a4 := Tryd.isAgg4
  z4 := Tryd.sizeOf4
  v4 := Tryd.zeroValue4
  t5 := Tryd.underlying5
  a5 := Tryd.isAgg5
  z5 := Tryd.sizeOf5
  v5 := Tryd.zeroValue5
  t9 := Tryd.underlying9
  a9 := Tryd.isAgg9
  z9 := Tryd.sizeOf9
  v9 := Tryd.zeroValue9
  t21 := Tryd.underlying21
  a21 := Tryd.isAgg21
  z21 := Tryd.sizeOf21
  v21 := Tryd.zeroValue21
  t46 := Tryd.underlying76
  a46 := Tryd.isAgg76
  z46 := Tryd.sizeOf76
  v46 := Tryd.zeroValue76
  t119 := Tryd.underlying127
  a119 := Tryd.isAgg127
  z119 := Tryd.sizeOf127
  t138 := Tryd.underlying129
  a138 := Tryd.isAgg129
  z138 := Tryd.sizeOf129
  v138 := Tryd.zeroValue129
  t139 := Tryd.underlying130
  a139 := Tryd.isAgg130
  z139 := Tryd.sizeOf130
  v139 := Tryd.zeroValue130
  g3 := by kernel_rfl
  g4 := by kernel_rfl }
open Go.RowKit Go.Lib in
theorem Tryd.utf8_decodeRuneInStringSlow (s : ByteArray) (w : World) (hT : Lib.Utf8Tabs 6 7 w) :
    Calls Tryd.prog 96 #[.string s] w fun e w' => e = .returned (.tuple #[.int .i32 (Lib.decodeGo s).1, .int .i64 (Lib.decodeGo s).2]) ∧ Below w.heap.size w w' := Any.utf8_decodeRuneInStringSlow Tryd.lays260 s w hT
end Go.Proofs


/-
  Contracts of package wide: Neg, Abs, Cmp, Half, magnitude, signer.
-/


namespace Go.Proofs.YtfjfmcnnakfjnaaDoor

set_option maxRecDepth 100000

open Go.RowKit

/-- The two contracts by numbers. -/
theorem add_n {n m : Int} (hn : InR n) (hm : InR m) (w : World) :
    Calls Tryd.prog 39 #[.agg #[.int .i64 (hi n), .int .u64 (lo n)], .agg #[.int .i64 (hi m), .int .u64 (lo m)]] w fun e w' =>
      e = .returned (.agg #[.int .i64 (hi (clamp (n + m))), .int .u64 (lo (clamp (n + m)))]) ∧ Below w.heap.size w w' := by
  have := add_any (hi n) (lo n) (hi m) (lo m) (lo_bd n).1 (lo_bd n).2 (lo_bd m).1 (lo_bd m).2 (hi_bd hn).1 (hi_bd hn).2 (hi_bd hm).1 (hi_bd hm).2 w
  rwa [hilo, hilo] at this
theorem sub_n {n m : Int} (hn : InR n) (hm : InR m) (w : World) :
    Calls Tryd.prog 90 #[.agg #[.int .i64 (hi n), .int .u64 (lo n)], .agg #[.int .i64 (hi m), .int .u64 (lo m)]] w fun e w' =>
      e = .returned (.agg #[.int .i64 (hi (clamp (n - m))), .int .u64 (lo (clamp (n - m)))]) ∧ Below w.heap.size w w' := by
  have := sub_any (hi n) (lo n) (hi m) (lo m) (lo_bd n).1 (lo_bd n).2 (lo_bd m).1 (lo_bd m).2 (hi_bd hn).1 (hi_bd hn).2 (hi_bd hm).1 (hi_bd hm).2 w
  rwa [hilo, hilo] at this

set_option maxHeartbeats 1000000 in
theorem neg_any (h l : Int) (a0 : 0 ≤ l) (a1 : l ≤ 18446744073709551615) (c0 : -9223372036854775808 ≤ h) (c1 : h ≤ 9223372036854775807) (w : World) :
    Calls Tryd.prog 75 #[.agg #[.int .i64 h, .int .u64 l]] w fun e w' =>
      e = .returned (.agg #[.int .i64 (hi (clamp (-(h * 18446744073709551616 + l)))), .int .u64 (lo (clamp (-(h * 18446744073709551616 + l))))]) ∧ Below w.heap.size w w' := by
  have hsub := fun w => sub_any 0 0 h l (by omega) (by omega) a0 a1 (by omega) (by omega) c0 c1 w
  rw [show (0 : Int) * 18446744073709551616 + 0 - (h * 18446744073709551616 + l) = -(h * 18446744073709551616 + l) from by omega] at hsub
  generalize hr : clamp (-(h * 18446744073709551616 + l)) = r at *
  have q1 := fun (w' : World) (h : Blk w' (w.heap.size + 1) #[.int .i64 0, .int .u64 0] 42) => h.two
  have q2 := fun (w' : World) (h : Blk w' (w.heap.size + 1) #[.int .i64 0, .int .u64 0] 42) => h.free0
  have HS := Lib.hid hsub; clear hsub hr
  go_enter Tryd.func75, Tryd.ntmps75
  go_wp2_with (go_at_call 90; refine (HS.out _).mono ?_; rintro e w' ⟨rfl, hb⟩; have g := Blk.keep hb (Blk.new (b := w.heap.size + 1) (T := 42) (by simp)); have g4 := (((Below.refl w.heap.size w).alloc (Nat.le_refl _) _).alloc (by simp) _).trans (hb.mono (by simp; omega)))
  have hfin := (g.put (i := 0) (.int .i64 (hi r))).put (i := 1) (.int .u64 (lo r))
  exact bodyPost_ret (v := .agg #[.int .i64 (hi r), .int .u64 (lo r)]) (by simp [results, Tryd.results75, go_sem, (show Blk _ _ #[.int .i64 (hi r), .int .u64 (lo r)] _ from hfin).two]) rfl ⟨rfl, (g4.setCell (by simp) _).setCell (by simp) _⟩

theorem or_u64 {a b p : Int} (k : Nat) (hp : p = ((2 ^ k : Nat) : Int)) (ha : a % p = 0) (a0 : 0 ≤ a) (a1 : a ≤ 18446744073709551615) (b0 : 0 ≤ b) (b1 : b < p) (hb : b ≤ 18446744073709551615) :
    bits .or .u64 a b = a + b := by
  obtain ⟨x, rfl⟩ := Int.eq_ofNat_of_zero_le a0
  obtain ⟨y, rfl⟩ := Int.eq_ofNat_of_zero_le b0
  subst hp
  rw [bits_or_u64_nat x y (by omega) (by omega)]
  have hx : x % 2 ^ k = 0 := by exact_mod_cast ha
  have hy : y < 2 ^ k := by exact_mod_cast b1
  have hd : 2 ^ k * (x / 2 ^ k) = x := Nat.mul_div_cancel' (Nat.dvd_of_mod_eq_zero hx)
  have := Nat.two_pow_add_eq_or_of_lt hy (x / 2 ^ k)
  rw [hd] at this
  rw [← this]; push_cast; rfl

/-- The size of a number. -/
def sz (n : Int) : Int := if n < 0 then -n else n
theorem sz_pos {n : Int} (h : 0 ≤ n) : sz n = n := by unfold sz; rw [if_neg (by omega)]
theorem sz_neg {n : Int} (h : n < 0) : sz n = -n := by unfold sz; rw [if_pos h]
theorem sz_bd {n : Int} (h : InR n) : 0 ≤ sz n ∧ sz n ≤ 170141183460469231731687303715884105728 := by unfold InR at h; unfold sz; split <;> omega

set_option maxHeartbeats 1000000 in
theorem magnitude_pos {h : Int} (l : Int) (c1 : h ≤ 9223372036854775807) (hn : ¬ h < 0) (w : World) :
    Calls Tryd.prog 54 #[.agg #[.int .i64 h, .int .u64 l]] w fun e w' =>
      e = .returned (.tuple #[.int .u64 h, .int .u64 l]) ∧ Below w.heap.size w w' := by
  have e1 : IntKind.u64.wrap h = h := by rw [IntKind.wrap_u64]; omega
  have q1 := fun (w' : World) (h : Blk w' (w.heap.size) #[.int .i64 h, .int .u64 l] 42) => h.two
  go_enter Tryd.func54, Tryd.ntmps54
  go_wp2_with (go_at_call 53; refine (negative_no _ hn _).mono ?_; rintro e w' ⟨rfl, hb⟩; have g := Blk.keep hb (Blk.new (b := w.heap.size) (T := 42) rfl); have g4 := ((Below.refl w.heap.size w).alloc (Nat.le_refl _) _).trans (hb.mono (by simp)))
  refine wp_region_held_drew (S := (fun w' => Blk w' w.heap.size #[.int .i64 h, .int .u64 l] 42)) (by kernel_rfl) ?_ (fun hHeld => ?_)
  · exact g.drew
  refine H.take 0 (v := ?_) rfl (by kernel_rfl) (fun _ _ _ h => h) (by rfl) ?_ (by assumption) ?_
  rotate_left
  · (intro wz hSw; (try dsimp only at hSw); go_simp <;> with_reducible rfl)
  try simp only [Act.put, List.setIfInBounds_toArray, List.set_cons_zero, List.set_cons_succ]
  refine H.take 1 (v := ?_) rfl (by kernel_rfl) (fun _ _ _ h => h) (by rfl) ?_ (by assumption) ?_
  rotate_left
  · (intro wz hSw; (try dsimp only at hSw); go_simp <;> with_reducible rfl)
  try simp only [Act.put, List.setIfInBounds_toArray, List.set_cons_zero, List.set_cons_succ]
  refine H.take 2 (v := ?_) rfl (by kernel_rfl) (fun _ _ _ h => h) (by rfl) ?_ (by assumption) ?_
  rotate_left
  · (intro wz hSw; (try dsimp only at hSw); go_simp <;> with_reducible rfl)
  try simp only [Act.put, List.setIfInBounds_toArray, List.set_cons_zero, List.set_cons_succ]
  refine H.take 3 (v := ?_) rfl (by kernel_rfl) (fun _ _ _ h => h) (by rfl) ?_ (by assumption) ?_
  rotate_left
  · (intro wz hSw; (try dsimp only at hSw); go_simp <;> with_reducible rfl)
  try simp only [Act.put, List.setIfInBounds_toArray, List.set_cons_zero, List.set_cons_succ]
  refine H.take 4 (v := ?_) rfl (by kernel_rfl) (fun _ _ _ h => h) (by rfl) ?_ (by assumption) ?_
  rotate_left
  · (intro wz hSw; (try dsimp only at hSw); go_simp <;> with_reducible rfl)
  try simp only [Act.put, List.setIfInBounds_toArray, List.set_cons_zero, List.set_cons_succ]
  refine H.take 5 (v := ?_) rfl (by kernel_rfl) (fun _ _ _ h => h) (by rfl) ?_ (by assumption) ?_
  rotate_left
  · (intro wz hSw; (try dsimp only at hSw); go_simp <;> with_reducible rfl)
  try simp only [Act.put, List.setIfInBounds_toArray, List.set_cons_zero, List.set_cons_succ]
  refine H.take 6 (v := ?_) rfl (by kernel_rfl) (fun _ _ _ h => h) (by rfl) ?_ (by assumption) ?_
  rotate_left
  · (intro wz hSw; (try dsimp only at hSw); go_simp <;> with_reducible rfl)
  try simp only [Act.put, List.setIfInBounds_toArray, List.set_cons_zero, List.set_cons_succ]
  refine H.done (by kernel_rfl) ?_ _
  go_wp2
  go_ret2
  exact ⟨rfl, g4.drew⟩
/-- Sub64 with a borrow. -/
theorem run_sub64b (x y b c : Int) (hx : 0 ≤ x) (hy : 0 ≤ y) (hb0 : 0 ≤ b) (hb1 : b ≤ 1) (hx1 : x ≤ 18446744073709551615) (hy1 : y ≤ 18446744073709551615) (hc : c = if x < y + b then 1 else 0) (w : World) :
    (callFunc 72 #[.int .u64 x, .int .u64 y, .int .u64 b]).run Tryd.prog w =
      .ok (.value (.tuple #[.int .u64 ((x + 18446744073709551616 - y - b) % 18446744073709551616), .int .u64 c])) w := by
  obtain ⟨x, rfl⟩ := Int.eq_ofNat_of_zero_le hx
  obtain ⟨y, rfl⟩ := Int.eq_ofNat_of_zero_le hy
  obtain ⟨b, rfl⟩ := Int.eq_ofNat_of_zero_le hb0
  rw [run_callFunc_extern Tryd.func72 (by kernel_rfl) (by kernel_rfl) (by kernel_rfl) (e := Go.Proofs.sub64Entry) (by kernel_rfl), Go.Proofs.run_sub64 x y b (by omega)]
  simp only [Result.andThen]
  have e1 : (((x + 18446744073709551616 - y - b) % 18446744073709551616 : Nat) : Int) = ((x : Int) + 18446744073709551616 - y - b) % 18446744073709551616 := by omega
  have e2 : ((if x < y + b then 1 else 0 : Nat) : Int) = c := by
    rw [hc]; by_cases h : x < y + b
    · rw [if_pos (by omega), if_pos (by omega)]; rfl
    · rw [if_neg (by omega), if_neg (by omega)]; rfl
  rw [e1, e2]

set_option maxHeartbeats 1000000 in
theorem magnitude_neg {h l : Int} (a0 : 0 ≤ l) (a1 : l ≤ 18446744073709551615) (c0 : -9223372036854775808 ≤ h) (hn : h < 0) (w : World) :
    Calls Tryd.prog 54 #[.agg #[.int .i64 h, .int .u64 l]] w fun e w' =>
      e = .returned (.tuple #[.int .u64 (hi (-(h * 18446744073709551616 + l))), .int .u64 (lo (-(h * 18446744073709551616 + l)))]) ∧ Below w.heap.size w w' := by
  obtain ⟨b, hb0⟩ : ∃ b : Int, b = if 0 < l then 1 else 0 := ⟨_, rfl⟩
  obtain ⟨b2, hb3⟩ : ∃ b2 : Int, b2 = if 0 < h + 18446744073709551616 + b then 1 else 0 := ⟨_, rfl⟩
  have b0 : 0 ≤ b := by split at hb0 <;> omega
  have b1 : b ≤ 1 := by split at hb0 <;> omega
  have hs1 := fun w => run_sub64 0 l b (by omega) a0 (by omega) a1 hb0 w
  have hs2 := fun w => run_sub64b 0 (h + 18446744073709551616) b b2 (by omega) (by omega) b0 b1 (by omega) (by omega) hb3 w
  have e0 : IntKind.u64.wrap h = h + 18446744073709551616 := by rw [IntKind.wrap_u64]; omega
  have e1 : (0 + 18446744073709551616 - (h + 18446744073709551616) - b) % 18446744073709551616 = hi (-(h * 18446744073709551616 + l)) := by
    unfold hi; split at hb0 <;> omega
  have e2 : (0 + 18446744073709551616 - l) % 18446744073709551616 = lo (-(h * 18446744073709551616 + l)) := by
    unfold lo; omega
  rw [e2] at hs1; rw [e1] at hs2
  clear e1 e2 hb0 hb3
  generalize hi (-(h * 18446744073709551616 + l)) = X at *
  generalize lo (-(h * 18446744073709551616 + l)) = Y at *
  have q1 := fun (w' : World) (h : Blk w' (w.heap.size) #[.int .i64 h, .int .u64 l] 42) => h.two
  go_enter Tryd.func54, Tryd.ntmps54
  go_wp2_with (go_at_call 53; refine (negative_yes _ hn _).mono ?_; rintro e w' ⟨rfl, hb⟩; have g := Blk.keep hb (Blk.new (b := w.heap.size) (T := 42) rfl); have g4 := ((Below.refl w.heap.size w).alloc (Nat.le_refl _) _).trans (hb.mono (by simp)))
  go_ret2
  exact ⟨rfl, g4⟩
theorem magnitude_n {n : Int} (hn : InR n) (w : World) :
    Calls Tryd.prog 54 #[.agg #[.int .i64 (hi n), .int .u64 (lo n)]] w fun e w' =>
      e = .returned (.tuple #[.int .u64 (hi (sz n)), .int .u64 (lo (sz n))]) ∧ Below w.heap.size w w' := by
  by_cases h : n < 0
  · have := magnitude_neg (lo_bd n).1 (lo_bd n).2 (hi_bd hn).1 ((hi_neg n).2 h) w
    rwa [hilo, ← sz_neg h] at this
  · have := magnitude_pos (lo n) (hi_bd hn).2 (fun k => h ((hi_neg n).1 k)) w
    rwa [sz_pos (by omega)]

set_option maxHeartbeats 1000000 in
theorem signer_any (m : Bool) (w : World) :
    Calls Tryd.prog 57 #[.bool m] w fun e w' => e = .returned (.func (.func 74) #[] #[.pointer (some ⟨w.heap.size, 0, none⟩)]) ∧ w' = w.alloc (.cells #[.bool m] 4) := by
  go_enter Tryd.func57, Tryd.ntmps57
  have hmf : ∀ (fn : Fn) (first cap : Array Value) (w : World), (Instr.makeFunc fn first cap).run Tryd.prog w = .ok (.func fn first cap) w := fun _ _ _ _ => rfl
  go_wp2
  go_ret
  exact ⟨rfl, rfl⟩

/-- With its sign. -/
def sgn (m : Bool) (u : Int) : Int := if m then -u else u
set_option maxHeartbeats 1000000 in
theorem signed_any (m : Bool) {x y : Int} (x0 : 0 ≤ x) (x1 : x ≤ 18446744073709551615) (y0 : 0 ≤ y) (y1 : y ≤ 18446744073709551615) {b : Nat} {w : World} (g : Blk w b #[.bool m] 4) :
    Calls Tryd.prog 74 #[.int .u64 x, .int .u64 y, .pointer (some ⟨b, 0, none⟩)] w fun e w' =>
      e = .returned (.agg #[.int .i64 (hi (clamp (sgn m (x * 18446744073709551616 + y)))), .int .u64 (lo (clamp (sgn m (x * 18446744073709551616 + y))))]) ∧ Below w.heap.size w w' := by
  have g0 := g.lt
  have g1 := g.one
  rcases (by omega : 9223372036854775807 < x ∨ x ≤ 9223372036854775807) with hx | hx
  · have hcell : ∀ o, (w.alloc o).cell? ⟨b, 0, none⟩ = some (.bool m) := fun o => (g.old o).one
    have hres : hi (clamp (sgn m (x * 18446744073709551616 + y))) = (if m then -9223372036854775808 else 9223372036854775807) ∧ lo (clamp (sgn m (x * 18446744073709551616 + y))) = (if m then 0 else 18446744073709551615) := by
      unfold sgn clamp hi lo
      cases m
      · simp only [Bool.false_eq_true, if_false]; rw [if_neg (by omega), if_pos (by omega)]; omega
      · simp only [if_true]; split
        · omega
        · have : -(x * 18446744073709551616 + y) = -170141183460469231731687303715884105728 := by omega
          rw [if_neg (by omega), this]; omega
    rw [hres.1, hres.2]; clear hres
    have q1 := fun (w' : World) (h : Blk w' w.heap.size #[.int .i64 0, .int .u64 0] 42) => h.two
    have q2 := fun (w' : World) (h : Blk w' w.heap.size #[.int .i64 0, .int .u64 0] 42) => h.free0
    cases m
    · go_enter Tryd.func74, Tryd.ntmps74
      go_wp2_with (go_at_call 58; refine (bound_high _).mono ?_; rintro e w' ⟨rfl, hb⟩; have g := Blk.keep hb (Blk.new (b := w.heap.size) (T := 42) rfl); have gB := ((Below.refl w.heap.size w).alloc (Nat.le_refl _) _).trans (hb.mono (by simp)))
      have hfin := (g.put (i := 0) (.int .i64 9223372036854775807)).put (i := 1) (.int .u64 18446744073709551615)
      exact bodyPost_ret (v := .agg #[.int .i64 9223372036854775807, .int .u64 18446744073709551615]) (by simp [results, Tryd.results74, go_sem, (show Blk _ _ #[.int .i64 9223372036854775807, .int .u64 18446744073709551615] _ from hfin).two]) rfl ⟨rfl, (gB.setCell (by simp) _).setCell (by simp) _⟩
    · go_enter Tryd.func74, Tryd.ntmps74
      go_wp2_with (go_at_call 58; refine (bound_low _).mono ?_; rintro e w' ⟨rfl, hb⟩; have g := Blk.keep hb (Blk.new (b := w.heap.size) (T := 42) rfl); have gB := ((Below.refl w.heap.size w).alloc (Nat.le_refl _) _).trans (hb.mono (by simp)))
      have hfin := (g.put (i := 0) (.int .i64 (-9223372036854775808))).put (i := 1) (.int .u64 0)
      exact bodyPost_ret (v := .agg #[.int .i64 (-9223372036854775808), .int .u64 0]) (by simp [results, Tryd.results74, go_sem, (show Blk _ _ #[.int .i64 (-9223372036854775808), .int .u64 0] _ from hfin).two]) rfl ⟨rfl, (gB.setCell (by simp) _).setCell (by simp) _⟩
  · have hcell : ∀ o, (w.alloc o).cell? ⟨b, 0, none⟩ = some (.bool m) := fun o => (g.old o).one
    have hcell2 : ∀ o o2, ((w.alloc o).alloc o2).cell? ⟨b, 0, none⟩ = some (.bool m) := fun o o2 => ((g.old o).old o2).one
    have q1 := fun (w' : World) (h : Blk w' w.heap.size #[.int .i64 0, .int .u64 0] 42) => h.two
    have q2 := fun (w' : World) (h : Blk w' w.heap.size #[.int .i64 0, .int .u64 0] 42) => h.free0
    have ei : IntKind.i64.wrap x = x := by rw [IntKind.wrap_i64]; omega
    have hneg := fun w => neg_any x y y0 y1 (by omega) hx w
    cases m
    · have hres : clamp (sgn false (x * 18446744073709551616 + y)) = x * 18446744073709551616 + y := by
        unfold sgn; simp only [Bool.false_eq_true, if_false]; exact clamp_of (inR_of y0 y1 (by omega) hx)
      rw [hres, hi_of y0 y1 rfl, lo_of y0 y1 rfl]
      clear hneg hres
      go_enter Tryd.func74, Tryd.ntmps74
      go_wp2
      exact bodyPost_ret (v := .agg #[.int .i64 x, .int .u64 y]) (by simp [results, Tryd.results74, go_sem]) rfl ⟨rfl, ((Below.refl _ _).alloc (Nat.le_refl _) _).alloc (by simp) _⟩
    · unfold sgn; simp only [if_true]
      generalize clamp (-(x * 18446744073709551616 + y)) = r at *
      have HN := Lib.hid hneg; clear hneg
      go_enter Tryd.func74, Tryd.ntmps74
      go_wp2_with (go_at_call 75; refine (HN.out _).mono ?_; rintro e w' ⟨rfl, hb⟩; have g := Blk.keep hb (Blk.old (Blk.new (b := w.heap.size) (T := 42) rfl) _); have gB := (((Below.refl w.heap.size w).alloc (Nat.le_refl _) _).alloc (by simp) _).trans (hb.mono (by simp; omega)))
      have hfin := (g.put (i := 0) (.int .i64 (hi r))).put (i := 1) (.int .u64 (lo r))
      exact bodyPost_ret (v := .agg #[.int .i64 (hi r), .int .u64 (lo r)]) (by simp [results, Tryd.results74, go_sem, (show Blk _ _ #[.int .i64 (hi r), .int .u64 (lo r)] _ from hfin).two]) rfl ⟨rfl, (gB.setCell (by simp) _).setCell (by simp) _⟩

theorem mul64_i (x y : Int) (x0 : 0 ≤ x) (x1 : x ≤ 18446744073709551615) (y0 : 0 ≤ y) (y1 : y ≤ 18446744073709551615) (w : World) :
    Calls Tryd.prog 63 #[.int .u64 x, .int .u64 y] w fun e w' => e = .returned (.tuple #[.int .u64 (hi (x * y)), .int .u64 (lo (x * y))]) ∧ w = w' := by
  obtain ⟨a, rfl⟩ := Int.eq_ofNat_of_zero_le x0
  obtain ⟨b, rfl⟩ := Int.eq_ofNat_of_zero_le y0
  refine (Tryd.bits_Mul64 a b (by omega) (by omega) w).mono ?_
  rintro e w' ⟨rfl, rfl⟩
  exact ⟨rfl, rfl⟩

end Go.Proofs.YtfjfmcnnakfjnaaDoor


/-
  Contracts of package wide: Abs, Cmp, Clip; and of the statements' own 'ends'.
-/

namespace Go.Proofs.YtfjfmcnnakfjnaaDoor

set_option maxRecDepth 100000

open Go.RowKit

theorem hi_nn {x : Int} (h : 0 ≤ x) : 0 ≤ hi x := by unfold hi; omega
theorem hi_le {x c : Int} (h : x ≤ c) : hi x ≤ c / 18446744073709551616 := by unfold hi; omega
theorem neg_n {n : Int} (hn : InR n) (w : World) :
    Calls Tryd.prog 75 #[.agg #[.int .i64 (hi n), .int .u64 (lo n)]] w fun e w' =>
      e = .returned (.agg #[.int .i64 (hi (clamp (-n))), .int .u64 (lo (clamp (-n)))]) ∧ Below w.heap.size w w' := by
  have := neg_any (hi n) (lo n) (lo_bd n).1 (lo_bd n).2 (hi_bd hn).1 (hi_bd hn).2 w
  rwa [hilo] at this
theorem negative_n (n : Int) (w : World) :
    Calls Tryd.prog 53 #[.agg #[.int .i64 (hi n), .int .u64 (lo n)]] w fun e w' => e = .returned (.bool (decide (n < 0))) ∧ Below w.heap.size w w' := by
  have := negative_any (hi n) (lo n) w
  rwa [decide_eq_decide.2 (hi_neg n)] at this

/-- Which is greater, as -1, 0, 1. -/
def cmpI (a b : Int) : Int := if a = b then 0 else if a < b then -1 else 1
theorem hilo_lt (a b : Int) : a < b ↔ hi a < hi b ∨ hi a = hi b ∧ lo a < lo b := by unfold hi lo; omega

set_option maxHeartbeats 1000000 in
theorem cmp_n (a b : Int) (w : World) :
    Calls Tryd.prog 26 #[.agg #[.int .i64 (hi a), .int .u64 (lo a)], .agg #[.int .i64 (hi b), .int .u64 (lo b)]] w fun e w' =>
      e = .returned (.int .i64 (cmpI a b)) ∧ Below w.heap.size w w' := by
  have hlt := hilo_lt a b
  by_cases h : a = b
  · subst h
    rw [show cmpI a a = 0 by unfold cmpI; rw [if_pos rfl]]
    clear hlt
    go_enter Tryd.func26, Tryd.ntmps26
    go_wp2
    go_ret
    exact ⟨rfl, ((Below.refl _ _).alloc (Nat.le_refl _) _).alloc (by simp) _⟩
  · have hne : ¬ (hi a = hi b ∧ lo a = lo b) := fun k => h (hilo_inj k.1 k.2)
    by_cases hl : a < b
    · rw [show cmpI a b = -1 by unfold cmpI; rw [if_neg h, if_pos hl]]
      rw [hlt] at hl
      clear hlt h
      generalize hi a = A at *; generalize lo a = B at *; generalize hi b = C at *; generalize lo b = D at *
      by_cases h1 : A < C
      · have e1 : (A == C) = false := by rw [beq_eq_false_iff_ne]; omega
        clear hne hl
        go_enter Tryd.func26, Tryd.ntmps26
        go_wp2
        go_ret
        exact ⟨rfl, ((Below.refl _ _).alloc (Nat.le_refl _) _).alloc (by simp) _⟩
      · obtain ⟨rfl, h2⟩ : A = C ∧ B < D := by omega
        clear hne hl
        go_enter Tryd.func26, Tryd.ntmps26
        go_wp2
        go_ret
        exact ⟨rfl, ((Below.refl _ _).alloc (Nat.le_refl _) _).alloc (by simp) _⟩
    · rw [show cmpI a b = 1 by unfold cmpI; rw [if_neg h, if_neg hl]]
      rw [hlt] at hl
      clear hlt h
      generalize hi a = A at *; generalize lo a = B at *; generalize hi b = C at *; generalize lo b = D at *
      by_cases h1 : C < A
      · have e1 : (A == C) = false := by rw [beq_eq_false_iff_ne]; omega
        have h2 : ¬ A < C := by omega
        clear hne hl
        go_enter Tryd.func26, Tryd.ntmps26
        go_wp2
        go_ret
        exact ⟨rfl, ((Below.refl _ _).alloc (Nat.le_refl _) _).alloc (by simp) _⟩
      · obtain ⟨rfl, h2⟩ : A = C ∧ D < B := by omega
        have h3 : ¬ B < D := by omega
        clear hne hl
        go_enter Tryd.func26, Tryd.ntmps26
        go_wp2
        go_ret
        exact ⟨rfl, ((Below.refl _ _).alloc (Nat.le_refl _) _).alloc (by simp) _⟩

end Go.Proofs.YtfjfmcnnakfjnaaDoor


/-
  Contracts of package wide: Mul, Scale.
-/

namespace Go.Proofs.YtfjfmcnnakfjnaaDoor

set_option maxRecDepth 100000

open Go.RowKit

theorem mul_bd {x y : Int} (x0 : 0 ≤ x) (x1 : x ≤ 9223372036854775808) (y0 : 0 ≤ y) (y1 : y ≤ 9223372036854775808) : 0 ≤ x * y ∧ x * y ≤ 85070591730234615865843651857942052864 := by
  refine ⟨Int.mul_nonneg x0 y0, ?_⟩
  have := Int.mul_le_mul x1 y1 y0 (by omega)
  exact this
theorem sgn_mul {a b : Int} (a0 : -9223372036854775808 ≤ a) (a1 : a ≤ 9223372036854775807) (b0 : -9223372036854775808 ≤ b) (b1 : b ≤ 9223372036854775807) :
    clamp (sgn (decide (a < 0) != decide (b < 0)) (sz a * sz b)) = a * b := by
  rcases (by omega : a < 0 ∨ 0 ≤ a) with ha | ha <;> rcases (by omega : b < 0 ∨ 0 ≤ b) with hb | hb
  · have h := mul_bd (x := -a) (y := -b) (by omega) (by omega) (by omega) (by omega)
    rw [sz_neg ha, sz_neg hb, decide_eq_true ha, decide_eq_true hb, Int.neg_mul_neg] at *
    simp only [bne_self_eq_false, sgn, Bool.false_eq_true, if_false]
    exact clamp_of (by unfold InR; omega)
  · have h := mul_bd (x := -a) (y := b) (by omega) (by omega) (by omega) (by omega)
    rw [sz_neg ha, sz_pos hb, decide_eq_true ha, decide_eq_false (by omega)]
    rw [Int.neg_mul] at *
    simp only [sgn, bne, Bool.true_beq, Bool.not_false, if_true, Int.neg_neg]
    exact clamp_of (by unfold InR; omega)
  · have h := mul_bd (x := a) (y := -b) (by omega) (by omega) (by omega) (by omega)
    rw [sz_pos ha, sz_neg hb, decide_eq_false (by omega), decide_eq_true hb]
    rw [Int.mul_neg] at *
    simp only [sgn, bne, Bool.false_beq, Bool.not_true, Bool.not_false, if_true, Int.neg_neg]
    exact clamp_of (by unfold InR; omega)
  · have h := mul_bd (x := a) (y := b) (by omega) (by omega) (by omega) (by omega)
    rw [sz_pos ha, sz_pos hb, decide_eq_false (by omega), decide_eq_false (by omega)]
    simp only [bne_self_eq_false, sgn, Bool.false_eq_true, if_false]
    exact clamp_of (by unfold InR; omega)

/-- A size times a number of 32 bits, in two words. -/
theorem scale_parts (H L n A B C D : Int) (hA : A = hi (L * n)) (hB : B = lo (L * n)) (hC : C = hi (H * n)) (hD : D = lo (H * n)) :
    (H * 18446744073709551616 + L) * n = (C * 18446744073709551616 + D + A) * 18446744073709551616 + B := by
  have h1 := hilo (L * n); have h2 := hilo (H * n)
  rw [← hA, ← hB] at h1; rw [← hC, ← hD] at h2
  rw [Int.add_mul, Int.mul_right_comm, ← h1, ← h2]; omega

theorem sgn_scale (n k : Int) : sgn (decide (n < 0)) (sz n * k) = n * k := by
  rcases (by omega : n < 0 ∨ 0 ≤ n) with h | h
  · rw [sz_neg h, decide_eq_true h]; simp only [sgn, if_true]; rw [Int.neg_mul, Int.neg_neg]
  · rw [sz_pos h, decide_eq_false (by omega)]; simp only [sgn, Bool.false_eq_true, if_false]

set_option maxHeartbeats 1000000 in
theorem scale_any {n : Int} {k : Int} (hn : InR n) (k0 : 0 ≤ k) (k1 : k ≤ 4294967295) (w : World) :
    Calls Tryd.prog 43 #[.agg #[.int .i64 (hi n), .int .u64 (lo n)], .int .u32 k] w fun e w' =>
      e = .returned (.agg #[.int .i64 (hi (clamp (n * k))), .int .u64 (lo (clamp (n * k)))]) ∧ Below w.heap.size w w' := by
  have hs := sz_bd hn
  have lb := lo_bd (sz n)
  have hb0 : 0 ≤ hi (sz n) := hi_nn hs.1
  have hb1 : hi (sz n) ≤ 9223372036854775808 := hi_le hs.2
  have eN : IntKind.u64.wrap k = k := by rw [IntKind.wrap_u64]; omega
  have ma := fun w => magnitude_n hn w
  have m1 := fun w => mul64_i (lo (sz n)) k lb.1 lb.2 k0 (by omega) w
  have m2 := fun w => mul64_i (hi (sz n)) k hb0 (by omega) k0 (by omega) w
  have hp := scale_parts (hi (sz n)) (lo (sz n)) k _ _ _ _ rfl rfl rfl rfl
  rw [hilo] at hp
  have a1 := lo_bd (lo (sz n) * k); have a2 := lo_bd (hi (sz n) * k)
  have a3 : 0 ≤ hi (lo (sz n) * k) := hi_nn (Int.mul_nonneg lb.1 k0)
  have a4 : hi (lo (sz n) * k) ≤ 4294967295 := by have := hi_le (Int.mul_le_mul lb.2 k1 k0 (by omega)); omega
  have a5 : 0 ≤ hi (hi (sz n) * k) := hi_nn (Int.mul_nonneg hb0 k0)
  have a6 : hi (hi (sz n) * k) ≤ 4294967295 := by have := hi_le (Int.mul_le_mul hb1 k1 k0 (by omega)); omega
  generalize hi (lo (sz n) * k) = A at *
  generalize lo (lo (sz n) * k) = B at *
  generalize hi (hi (sz n) * k) = C at *
  generalize lo (hi (sz n) * k) = D at *
  have hadd := fun w => run_add64 D A 0 a2.1 a3 (by omega) (by omega) w
  have q1 := fun (w' : World) (h : Blk w' w.heap.size #[.int .i64 (hi n), .int .u64 (lo n)] 42) => h.two
  have q2 := fun (w' : World) (h : Blk w' (w.heap.size + 1) #[.int .i64 0, .int .u64 0] 42) => h.two
  have q3 := fun (w' : World) (h : Blk w' (w.heap.size + 1) #[.int .i64 0, .int .u64 0] 42) => h.free0
  have MA := Lib.hid ma; have M1 := Lib.hid m1; have M2 := Lib.hid m2; have HP := Lib.hid hp
  clear ma m1 m2 hp
  rcases (by omega : C + (D + A) / 18446744073709551616 = 0 ∨ 0 < C + (D + A) / 18446744073709551616) with hfit | hfit
  · have hres : clamp (sgn (decide (n < 0)) ((D + A) % 18446744073709551616 * 18446744073709551616 + B)) = clamp (n * k) := by
      rw [← sgn_scale n k, HP.out]; congr 2; omega
    have hs := fun (b : Nat) (w : World) (g : Blk w b #[.bool (decide (n < 0))] 4) => signed_any (decide (n < 0)) (x := (D + A) % 18446744073709551616) (y := B) (by omega) (by omega) a1.1 a1.2 g
    rw [hres] at hs; clear hres
    have HS := Lib.hid hs; clear hs
    have e0 : C = 0 := by omega
    have e1 : (D + A) / 18446744073709551616 = 0 := by omega
    subst e0; clear hfit
    go_enter Tryd.func43, Tryd.ntmps43
    go_wp2_with (first | (go_at_call 54; refine (MA.out _).mono ?_; rintro e w1 ⟨rfl, hb1⟩; have g := Blk.keep hb1 (Blk.new (b := w.heap.size + 1) (T := 42) (by simp)); have gA := Blk.keep hb1 (Blk.old (Blk.new (b := w.heap.size) (T := 42) rfl) _); have gB := (((Below.refl w.heap.size w).alloc (Nat.le_refl _) _).alloc (by simp) _).trans (hb1.mono (by simp; omega))) | (go_at_call 63; (first | ((with_reducible refine (M1.out _).mono ?_); rintro e w1 ⟨rfl, rfl⟩) | ((with_reducible refine (M2.out _).mono ?_); rintro e w1 ⟨rfl, rfl⟩))) | (go_at_call 53; refine (negative_n _ _).mono ?_; rintro e w1 ⟨rfl, hb1⟩; replace g := Blk.keep hb1 g; replace gA := Blk.keep hb1 gA; replace gB := gB.trans (hb1.mono gB.size)) | (go_at_call 57; refine (signer_any _ _).mono ?_; rintro e w1 ⟨rfl, rfl⟩; replace g := Blk.old g (.cells #[.bool (decide (n < 0))] 4); replace gB := gB.alloc gB.size (.cells #[.bool (decide (n < 0))] 4)))
    refine (HS.out _ _ (Blk.new rfl)).mono ?_
    rintro e w1 ⟨rfl, hb1⟩; replace g := Blk.keep hb1 g; replace gB := gB.trans (hb1.mono gB.size)
    go_wp2
    have hfin := (g.put (i := 0) (.int .i64 (hi (clamp (n * k))))).put (i := 1) (.int .u64 (lo (clamp (n * k))))
    exact bodyPost_ret (v := .agg #[.int .i64 (hi (clamp (n * k))), .int .u64 (lo (clamp (n * k)))]) (by simp [results, Tryd.results43, go_sem, (show Blk _ _ #[.int .i64 (hi (clamp (n * k))), .int .u64 (lo (clamp (n * k)))] _ from hfin).two]) rfl ⟨rfl, (gB.setCell (by simp) _).setCell (by simp) _⟩
  · have hbig : 340282366920938463463374607431768211456 ≤ sz n * k := by rw [HP.out]; omega
    have e1 : ((C + (D + A) / 18446744073709551616) != 0) = true := by rw [bne_iff_ne]; omega
    have e2 : ((C + (D + A) / 18446744073709551616) == 0) = false := by rw [beq_eq_false_iff_ne]; omega
    rcases (by omega : n < 0 ∨ ¬ n < 0) with hneg | hneg
    · have hd := decide_eq_true hneg
      have hr : clamp (n * k) = -170141183460469231731687303715884105728 := by
        have := sgn_scale n k; rw [hd] at this; simp only [sgn, if_true] at this
        unfold clamp; rw [if_pos (by omega)]
      rw [hr]; clear hr
      go_enter Tryd.func43, Tryd.ntmps43
      go_wp2_with (first | (go_at_call 54; refine (MA.out _).mono ?_; rintro e w1 ⟨rfl, hb1⟩; have g := Blk.keep hb1 (Blk.new (b := w.heap.size + 1) (T := 42) (by simp)); have gA := Blk.keep hb1 (Blk.old (Blk.new (b := w.heap.size) (T := 42) rfl) _); have gB := (((Below.refl w.heap.size w).alloc (Nat.le_refl _) _).alloc (by simp) _).trans (hb1.mono (by simp; omega))) | (go_at_call 63; (first | ((with_reducible refine (M1.out _).mono ?_); rintro e w1 ⟨rfl, rfl⟩) | ((with_reducible refine (M2.out _).mono ?_); rintro e w1 ⟨rfl, rfl⟩))) | (go_at_call 53; refine (negative_n _ _).mono ?_; rintro e w1 ⟨rfl, hb1⟩; replace g := Blk.keep hb1 g; replace gA := Blk.keep hb1 gA; replace gB := gB.trans (hb1.mono gB.size)) | (go_at_call 58; refine (bound_low _).mono ?_; rintro e w1 ⟨rfl, hb1⟩; replace g := Blk.keep hb1 g; replace gB := gB.trans (hb1.mono gB.size)))
      have hfin := (g.put (i := 0) (.int .i64 (-9223372036854775808))).put (i := 1) (.int .u64 0)
      exact bodyPost_ret (v := .agg #[.int .i64 (-9223372036854775808), .int .u64 0]) (by simp [results, Tryd.results43, go_sem, (show Blk _ _ #[.int .i64 (-9223372036854775808), .int .u64 0] _ from hfin).two]) rfl ⟨(ret_w (by decide) (by decide)), (gB.setCell (by simp) _).setCell (by simp) _⟩
    · have hd := decide_eq_false hneg
      have hr : clamp (n * k) = 170141183460469231731687303715884105727 := by
        have := sgn_scale n k; rw [hd] at this; simp only [sgn, Bool.false_eq_true, if_false] at this
        unfold clamp; rw [if_neg (by omega), if_pos (by omega)]
      rw [hr]; clear hr
      go_enter Tryd.func43, Tryd.ntmps43
      go_wp2_with (first | (go_at_call 54; refine (MA.out _).mono ?_; rintro e w1 ⟨rfl, hb1⟩; have g := Blk.keep hb1 (Blk.new (b := w.heap.size + 1) (T := 42) (by simp)); have gA := Blk.keep hb1 (Blk.old (Blk.new (b := w.heap.size) (T := 42) rfl) _); have gB := (((Below.refl w.heap.size w).alloc (Nat.le_refl _) _).alloc (by simp) _).trans (hb1.mono (by simp; omega))) | (go_at_call 63; (first | ((with_reducible refine (M1.out _).mono ?_); rintro e w1 ⟨rfl, rfl⟩) | ((with_reducible refine (M2.out _).mono ?_); rintro e w1 ⟨rfl, rfl⟩))) | (go_at_call 53; refine (negative_n _ _).mono ?_; rintro e w1 ⟨rfl, hb1⟩; replace g := Blk.keep hb1 g; replace gA := Blk.keep hb1 gA; replace gB := gB.trans (hb1.mono gB.size)) | (go_at_call 58; refine (bound_high _).mono ?_; rintro e w1 ⟨rfl, hb1⟩; replace g := Blk.keep hb1 g; replace gB := gB.trans (hb1.mono gB.size)))
      have hfin := (g.put (i := 0) (.int .i64 9223372036854775807)).put (i := 1) (.int .u64 18446744073709551615)
      exact bodyPost_ret (v := .agg #[.int .i64 9223372036854775807, .int .u64 18446744073709551615]) (by simp [results, Tryd.results43, go_sem, (show Blk _ _ #[.int .i64 9223372036854775807, .int .u64 18446744073709551615] _ from hfin).two]) rfl ⟨(ret_w (by decide) (by decide)), (gB.setCell (by simp) _).setCell (by simp) _⟩
end Go.Proofs.YtfjfmcnnakfjnaaDoor


/-
  Plain arithmetic of a long division by two digits of 32 bits. No program is named here.
-/
namespace Go.Proofs.YtfjfmcnnakfjnaaDoor.DivM

/-- One digit's setting: Y is N1, N0; U is below Y; Q is the digit. -/
structure Dig (U V Y N1 N0 Q : Int) : Prop where
  y : Y = N1 * 4294967296 + N0
  n1 : 2147483648 ≤ N1
  n1' : N1 ≤ 4294967295
  n0 : 0 ≤ N0
  n0' : N0 ≤ 4294967295
  u0 : 0 ≤ U
  u : U < Y
  v0 : 0 ≤ V
  v : V ≤ 4294967295
  q : Q = (U * 4294967296 + V) / Y

theorem Dig.ypos {U V Y N1 N0 Q : Int} (d : Dig U V Y N1 N0 Q) : 0 < Y := by have := d.y; have := d.n1; have := d.n0; omega
theorem Dig.low {U V Y N1 N0 Q : Int} (d : Dig U V Y N1 N0 Q) : Q * Y ≤ U * 4294967296 + V := by
  rw [d.q]; exact Int.ediv_mul_le _ (by have := d.ypos; omega)
theorem Dig.high {U V Y N1 N0 Q : Int} (d : Dig U V Y N1 N0 Q) : U * 4294967296 + V < Q * Y + Y := by
  have h := Int.lt_ediv_add_one_mul_self (U * 4294967296 + V) d.ypos
  rw [← d.q] at h; rw [Int.add_mul, Int.one_mul] at h; exact h
theorem Dig.q0 {U V Y N1 N0 Q : Int} (d : Dig U V Y N1 N0 Q) : 0 ≤ Q := by
  rw [d.q]; exact Int.ediv_nonneg (by have := d.u0; have := d.v0; omega) (by have := d.ypos; omega)
theorem Dig.qlt {U V Y N1 N0 Q : Int} (d : Dig U V Y N1 N0 Q) : Q ≤ 4294967295 := by
  have h : Q < 4294967296 := by
    rw [d.q]; apply Int.ediv_lt_of_lt_mul d.ypos
    have := d.u; have := d.v; have := d.v0; rw [Int.mul_comm]; omega
  omega
theorem Dig.mulY {U V Y N1 N0 Q : Int} (d : Dig U V Y N1 N0 Q) (q : Int) : q * Y = q * N1 * 4294967296 + q * N0 := by
  rw [d.y, Int.mul_add, Int.mul_assoc]
theorem Dig.dec {U V Y N1 N0 Q q r : Int} (d : Dig U V Y N1 N0 Q) (h : q * N1 + r = U) (hq : Q ≤ q) (hc : 4294967296 ≤ q ∨ 4294967296 * r + V < q * N0) : Q ≤ q - 1 := by
  rcases hc with hc | hc
  · have := d.qlt; omega
  · have h1 := d.mulY q
    have h2 := d.low
    have h3 : Q * Y < q * Y := by omega
    have : Q < q := Int.lt_of_mul_lt_mul_right h3 (by have := d.ypos; omega)
    omega
theorem Dig.stop {U V Y N1 N0 Q q r : Int} (d : Dig U V Y N1 N0 Q) (h : q * N1 + r = U) (hq : Q ≤ q) (hc : q * N0 ≤ 4294967296 * r + V) : q = Q := by
  have h1 := d.mulY q
  have h2 := d.high
  have h3 : q * Y < (Q + 1) * Y := by rw [Int.add_mul, Int.one_mul]; omega
  have : q < Q + 1 := Int.lt_of_mul_lt_mul_right h3 (by have := d.ypos; omega)
  omega
theorem Dig.brk {U V Y N1 N0 Q q r : Int} (d : Dig U V Y N1 N0 Q) (h : q * N1 + r = U) (hq : Q ≤ q) (hb : q ≤ 4294967296) (hr : 4294967296 ≤ r) : q = Q := by
  refine d.stop h hq ?_
  have h1 : q * N0 ≤ 4294967296 * N0 := Int.mul_le_mul_of_nonneg_right hb d.n0
  have := d.n0'; have := d.v0; omega
theorem Dig.start {U V Y N1 N0 Q : Int} (d : Dig U V Y N1 N0 Q) : U / N1 * N1 + U % N1 = U ∧ Q ≤ U / N1 ∧ U / N1 ≤ 4294967297 ∧ 0 ≤ U % N1 ∧ U % N1 ≤ 4294967295 ∧ 0 ≤ U / N1 := by
  have hp : 0 < N1 := by have := d.n1; omega
  have h1 := Int.emod_add_mul_ediv U N1
  have h2 := Int.emod_nonneg U (by omega : N1 ≠ 0)
  have h3 := Int.emod_lt_of_pos U hp
  have h4 := d.n1'
  have h5 : U / N1 * N1 + U % N1 = U := by rw [Int.mul_comm]; omega
  refine ⟨h5, ?_, ?_, h2, by omega, Int.ediv_nonneg d.u0 (by omega)⟩
  · apply Int.le_ediv_of_mul_le hp
    have ha := d.low; have hb := d.mulY Q
    have hc : 0 ≤ Q * N0 := Int.mul_nonneg d.q0 d.n0
    have := d.v; omega
  · have : U / N1 < 4294967298 := by
      apply Int.ediv_lt_of_lt_mul hp
      have := d.u; have := d.y; have := d.n0'; have := d.n1; omega
    omega
/-- What is left behind the digit. -/
theorem Dig.rest {U V Y N1 N0 Q : Int} (d : Dig U V Y N1 N0 Q) : 0 ≤ U * 4294967296 + V - Q * Y ∧ U * 4294967296 + V - Q * Y < Y := by
  have := d.low; have := d.high; omega

/-- Both digits together. -/
theorem two_digits {U V1 V0 Y N1 N0 Q1 Q0 U2 : Int} (d1 : Dig U V1 Y N1 N0 Q1) (hU : U2 = U * 4294967296 + V1 - Q1 * Y) (d2 : Dig U2 V0 Y N1 N0 Q0) :
    (U * 18446744073709551616 + (V1 * 4294967296 + V0)) / Y = Q1 * 4294967296 + Q0 ∧ (U * 18446744073709551616 + (V1 * 4294967296 + V0)) % Y = U2 * 4294967296 + V0 - Q0 * Y := by
  have hr := d2.rest
  have e : U * 18446744073709551616 + (V1 * 4294967296 + V0) = (U2 * 4294967296 + V0 - Q0 * Y) + Y * (Q1 * 4294967296 + Q0) := by
    rw [Int.mul_add, ← Int.mul_assoc, Int.mul_comm Y Q1, Int.mul_comm Y Q0, hU]; omega
  rw [e]
  have hp := d1.ypos
  constructor
  · rw [Int.add_mul_ediv_left _ _ (by omega : Y ≠ 0), Int.ediv_eq_zero_of_lt hr.1 hr.2]; omega
  · rw [Int.add_mul_emod_self_left]; exact Int.emod_eq_of_lt hr.1 hr.2
end Go.Proofs.YtfjfmcnnakfjnaaDoor.DivM


/-
  The contract of bits.Div64: the walk, over the numbers that its own text makes.
-/


namespace Go.Proofs.YtfjfmcnnakfjnaaDoor

set_option maxRecDepth 100000

open Go.RowKit DivM

/-- At the head of either loop: the digit is not above q, and q times N1, with r, is U. -/
def DigAt (U N1 Q : Int) (A R : Value) : Prop := ∃ q r : Int, (q * N1 + r = U ∧ Q ≤ q ∧ q ≤ 4294967297 ∧ 0 ≤ r ∧ r ≤ 4294967295) ∧ A = .int .u64 q ∧ R = .int .u64 r

theorem prod_bd {q N0 : Int} (q0 : 0 ≤ q) (q1 : q ≤ 4294967295) (n0 : 0 ≤ N0) (n1 : N0 ≤ 4294967295) : 0 ≤ q * N0 ∧ q * N0 ≤ 18446744065119617025 :=
  ⟨Int.mul_nonneg q0 n0, Int.mul_le_mul q1 n1 n0 (by omega)⟩

set_option maxRecDepth 100000 in
set_option maxHeartbeats 8000000 in
theorem div64_walk (h l y s S T Y N1 N0 HS LT U V V1 V0 Q1 U2 Q0 : Int) (w : World)
    (h0 : 0 < h) (hy : h < y) (y1 : y ≤ 18446744073709551615) (s0 : 0 ≤ s) (s1 : s ≤ 63)
    (hs : 64 - (Lib.bitLen y.toNat : Int) = s) (eS : (2 : Int) ^ s.toNat = S) (eT : (2 : Int) ^ (64 - s).toNat = T)
    (eY : IntKind.u64.wrap (y * S) = Y) (eN1 : Y / 4294967296 = N1) (eN0 : bits .and .u64 Y 4294967295 = N0)
    (eH : IntKind.u64.wrap (h * S) = HS) (eL : l / T = LT) (eU : bits .or .u64 HS LT = U)
    (eV : IntKind.u64.wrap (l * S) = V) (eV1 : V / 4294967296 = V1) (eV0 : bits .and .u64 V 4294967295 = V0)
    (d1 : Dig U V1 Y N1 N0 Q1) (hU2 : U2 = U * 4294967296 + V1 - Q1 * Y) (d2 : Dig U2 V0 Y N1 N0 Q0) (yy : Y ≤ 18446744073709551615) :
    Calls Tryd.prog 55 #[.int .u64 h, .int .u64 l, .int .u64 y] w fun e w' =>
      e = .returned (.tuple #[.int .u64 (Q1 * 4294967296 + Q0), .int .u64 ((U2 * 4294967296 + V0 - Q0 * Y) / S)]) ∧ w' = w := by
  have e1 : (y == 0) = false := by rw [beq_eq_false_iff_ne]; omega
  have e2 : (h == 0) = false := by rw [beq_eq_false_iff_ne]; omega
  have e3 : ¬ y ≤ h := by omega
  have lz := fun w => Tryd.bits_LeadingZeros64 y w (by omega) y1
  rw [hs] at lz
  have LZ := Lib.hid lz; clear lz hs
  obtain ⟨st1, st2, st3, st4, st5, st6⟩ := d1.start
  have n1a := d1.n1; have n1b := d1.n1'; have n0a := d1.n0; have n0b := d1.n0'; have ua := d1.u0; have ub : U ≤ 18446744073709551615 := by have := d1.u; omega
  have u2a := d2.u0; have u2b : U2 ≤ 18446744073709551615 := by have := d2.u; omega
  have v1a := d1.v0; have v1b := d1.v; have v0a := d2.v0; have v0b := d2.v
  have qa := d1.q0; have qb := d1.qlt; have q0a := d2.q0; have q0b := d2.qlt
  have yp := d1.ypos
  have nz : (N1 == 0) = false := by rw [beq_eq_false_iff_ne]; omega
  have nz2 : ¬ N1 = 0 := by omega
  obtain ⟨tt1, tt2, tt3, tt4, tt5, tt6⟩ := d2.start
  have D1 := Lib.hid d1; have D2 := Lib.hid d2; have HU2 := Lib.hid hU2
  have ST1 := Lib.hid st1; have TT1 := Lib.hid tt1
  have er1 : U - U / N1 * N1 = U % N1 := by omega
  have er2 : U2 - U2 / N1 * N1 = U2 % N1 := by omega
  have bq1 : 0 ≤ U / N1 * N1 := Int.mul_nonneg st6 (by omega)
  have bq2 : U / N1 * N1 ≤ 18446744073709551615 := by omega
  have bq3 : 0 ≤ U2 / N1 * N1 := Int.mul_nonneg tt6 (by omega)
  have bq4 : U2 / N1 * N1 ≤ 18446744073709551615 := by omega
  clear d1 d2 hU2 st1 tt1
  generalize hr1 : U % N1 = ri at *
  generalize hr2 : U2 % N1 = rj at *
  generalize hm1 : U / N1 * N1 = QN at *
  generalize hm2 : U2 / N1 * N1 = QM at *
  obtain ⟨W1, w1e⟩ : ∃ W1, IntKind.u64.wrap (U * 4294967296) = W1 := ⟨_, rfl⟩
  obtain ⟨W2, w2e⟩ : ∃ W2, IntKind.u64.wrap (Q1 * Y) = W2 := ⟨_, rfl⟩
  obtain ⟨W3, w3e⟩ : ∃ W3, IntKind.u64.wrap (W1 + V1) = W3 := ⟨_, rfl⟩
  obtain ⟨X1, x1e⟩ : ∃ X1, IntKind.u64.wrap (U2 * 4294967296) = X1 := ⟨_, rfl⟩
  obtain ⟨X2, x2e⟩ : ∃ X2, IntKind.u64.wrap (Q0 * Y) = X2 := ⟨_, rfl⟩
  obtain ⟨X3, x3e⟩ : ∃ X3, IntKind.u64.wrap (X1 + V0) = X3 := ⟨_, rfl⟩
  obtain ⟨R, rE⟩ : ∃ R, U2 * 4294967296 + V0 - Q0 * Y = R := ⟨_, rfl⟩
  have hrest := D2.out.rest
  have w4e : IntKind.u64.wrap (W3 - W2) = U2 := by simp only [IntKind.wrap_u64] at *; have := HU2.out; omega
  have x4e : IntKind.u64.wrap (X3 - X2) = R := by simp only [IntKind.wrap_u64] at *; omega
  have rb : 0 ≤ R := by omega
  have rb2 : R ≤ 18446744073709551615 := by omega
  have RE := Lib.hid rE; clear rE hrest
  go_enter Tryd.func55, Tryd.ntmps55
  go_wp2_with (go_at_call 73; refine (LZ.out _).mono ?_; rintro e w1 ⟨rfl, hw1⟩; rw [hw1]; clear hw1)
  go_loop [15, 16] (fun A R => DigAt U N1 Q1 A R) (fun A _ => (intOf A).toNat)
  case atStart => exact ⟨U / N1, ri, ⟨by rw [hm1]; exact ST1.out, st2, st3, st4, st5⟩, rfl, rfl⟩
  case round =>
    obtain ⟨q, r, ⟨i1, i2, i3, i4, i5⟩, rfl, rfl⟩ := hrel
    have I1 := Lib.hid i1; clear i1
    by_cases hbig : 4294967296 ≤ q
    · have hdec := D1.out.dec I1.out i2 (Or.inl hbig)
      have I2 : (q - 1) * N1 + (r + N1) = U := by rw [Int.sub_mul]; have := I1.out; omega
      by_cases hr : 4294967296 ≤ r + N1
      · have hQ := D1.out.brk I2 hdec (by omega) hr
        clear I2
        go_wp2
        go_loop [18, 16] (fun A R => DigAt U2 N1 Q0 A R) (fun A _ => (intOf A).toNat)
        case atStart => exact ⟨U2 / N1, rj, ⟨by rw [hm2]; exact TT1.out, tt2, tt3, tt4, tt5⟩, rfl, rfl⟩
        case round =>
          obtain ⟨q, r, ⟨i1, i2, i3, i4, i5⟩, rfl, rfl⟩ := hrel
          have I1 := Lib.hid i1; clear i1
          by_cases hbig : 4294967296 ≤ q
          · have hdec := D2.out.dec I1.out i2 (Or.inl hbig)
            have I2 : (q - 1) * N1 + (r + N1) = U2 := by rw [Int.sub_mul]; have := I1.out; omega
            by_cases hr : 4294967296 ≤ r + N1
            · have hQ := D2.out.brk I2 hdec (by omega) hr
              clear I2
              go_wp2
              go_ret2
              exact ⟨by rw [RE.out]; rfl, rfl⟩
            · skip
              have IH := Lib.hid I2; clear I2
              go_wp2
              go_round
              case rel => exact ⟨q - 1, r + N1, ⟨IH.out, hdec, by omega, by omega, by omega⟩, rfl, rfl⟩
              case measure => simp [intOf]; omega
          · have hp := prod_bd (by omega : 0 ≤ q) (by omega) n0a n0b
            obtain ⟨P, hP⟩ : ∃ P, q * N0 = P := ⟨_, rfl⟩
            rw [hP] at hp
            by_cases hc : 4294967296 * r + V0 < P
            · have hdec := D2.out.dec I1.out i2 (Or.inr (by rw [hP]; exact hc))
              have I2 : (q - 1) * N1 + (r + N1) = U2 := by rw [Int.sub_mul]; have := I1.out; omega
              by_cases hr : 4294967296 ≤ r + N1
              · have hQ := D2.out.brk I2 hdec (by omega) hr
                clear I2
                go_wp2
                go_ret2
                exact ⟨by rw [RE.out]; rfl, rfl⟩
              · skip
                have IH := Lib.hid I2; clear I2
                go_wp2
                go_round
                case rel => exact ⟨q - 1, r + N1, ⟨IH.out, hdec, by omega, by omega, by omega⟩, rfl, rfl⟩
                case measure => simp [intOf]; omega
            · obtain rfl : Q0 = q := (D2.out.stop I1.out i2 (by omega)).symm
              go_wp2
              go_ret2
              exact ⟨by rw [RE.out]; rfl, rfl⟩
      · skip
        have IH := Lib.hid I2; clear I2
        go_wp2
        go_round
        case rel => exact ⟨q - 1, r + N1, ⟨IH.out, hdec, by omega, by omega, by omega⟩, rfl, rfl⟩
        case measure => simp [intOf]; omega
    · have hp := prod_bd (by omega : 0 ≤ q) (by omega) n0a n0b
      obtain ⟨P, hP⟩ : ∃ P, q * N0 = P := ⟨_, rfl⟩
      rw [hP] at hp
      by_cases hc : 4294967296 * r + V1 < P
      · have hdec := D1.out.dec I1.out i2 (Or.inr (by rw [hP]; exact hc))
        have I2 : (q - 1) * N1 + (r + N1) = U := by rw [Int.sub_mul]; have := I1.out; omega
        by_cases hr : 4294967296 ≤ r + N1
        · have hQ := D1.out.brk I2 hdec (by omega) hr
          clear I2
          go_wp2
          go_loop [18, 16] (fun A R => DigAt U2 N1 Q0 A R) (fun A _ => (intOf A).toNat)
          case atStart => exact ⟨U2 / N1, rj, ⟨by rw [hm2]; exact TT1.out, tt2, tt3, tt4, tt5⟩, rfl, rfl⟩
          case round =>
            obtain ⟨q, r, ⟨i1, i2, i3, i4, i5⟩, rfl, rfl⟩ := hrel
            have I1 := Lib.hid i1; clear i1
            by_cases hbig : 4294967296 ≤ q
            · have hdec := D2.out.dec I1.out i2 (Or.inl hbig)
              have I2 : (q - 1) * N1 + (r + N1) = U2 := by rw [Int.sub_mul]; have := I1.out; omega
              by_cases hr : 4294967296 ≤ r + N1
              · have hQ := D2.out.brk I2 hdec (by omega) hr
                clear I2
                go_wp2
                go_ret2
                exact ⟨by rw [RE.out]; rfl, rfl⟩
              · skip
                have IH := Lib.hid I2; clear I2
                go_wp2
                go_round
                case rel => exact ⟨q - 1, r + N1, ⟨IH.out, hdec, by omega, by omega, by omega⟩, rfl, rfl⟩
                case measure => simp [intOf]; omega
            · have hp := prod_bd (by omega : 0 ≤ q) (by omega) n0a n0b
              obtain ⟨P, hP⟩ : ∃ P, q * N0 = P := ⟨_, rfl⟩
              rw [hP] at hp
              by_cases hc : 4294967296 * r + V0 < P
              · have hdec := D2.out.dec I1.out i2 (Or.inr (by rw [hP]; exact hc))
                have I2 : (q - 1) * N1 + (r + N1) = U2 := by rw [Int.sub_mul]; have := I1.out; omega
                by_cases hr : 4294967296 ≤ r + N1
                · have hQ := D2.out.brk I2 hdec (by omega) hr
                  clear I2
                  go_wp2
                  go_ret2
                  exact ⟨by rw [RE.out]; rfl, rfl⟩
                · skip
                  have IH := Lib.hid I2; clear I2
                  go_wp2
                  go_round
                  case rel => exact ⟨q - 1, r + N1, ⟨IH.out, hdec, by omega, by omega, by omega⟩, rfl, rfl⟩
                  case measure => simp [intOf]; omega
              · obtain rfl : Q0 = q := (D2.out.stop I1.out i2 (by omega)).symm
                go_wp2
                go_ret2
                exact ⟨by rw [RE.out]; rfl, rfl⟩
        · skip
          have IH := Lib.hid I2; clear I2
          go_wp2
          go_round
          case rel => exact ⟨q - 1, r + N1, ⟨IH.out, hdec, by omega, by omega, by omega⟩, rfl, rfl⟩
          case measure => simp [intOf]; omega
      · obtain rfl : Q1 = q := (D1.out.stop I1.out i2 (by omega)).symm
        go_wp2
        go_loop [18, 16] (fun A R => DigAt U2 N1 Q0 A R) (fun A _ => (intOf A).toNat)
        case atStart => exact ⟨U2 / N1, rj, ⟨by rw [hm2]; exact TT1.out, tt2, tt3, tt4, tt5⟩, rfl, rfl⟩
        case round =>
          obtain ⟨q, r, ⟨i1, i2, i3, i4, i5⟩, rfl, rfl⟩ := hrel
          have I1 := Lib.hid i1; clear i1
          by_cases hbig : 4294967296 ≤ q
          · have hdec := D2.out.dec I1.out i2 (Or.inl hbig)
            have I2 : (q - 1) * N1 + (r + N1) = U2 := by rw [Int.sub_mul]; have := I1.out; omega
            by_cases hr : 4294967296 ≤ r + N1
            · have hQ := D2.out.brk I2 hdec (by omega) hr
              clear I2
              go_wp2
              go_ret2
              exact ⟨by rw [RE.out]; rfl, rfl⟩
            · skip
              have IH := Lib.hid I2; clear I2
              go_wp2
              go_round
              case rel => exact ⟨q - 1, r + N1, ⟨IH.out, hdec, by omega, by omega, by omega⟩, rfl, rfl⟩
              case measure => simp [intOf]; omega
          · have hp := prod_bd (by omega : 0 ≤ q) (by omega) n0a n0b
            obtain ⟨P, hP⟩ : ∃ P, q * N0 = P := ⟨_, rfl⟩
            rw [hP] at hp
            by_cases hc : 4294967296 * r + V0 < P
            · have hdec := D2.out.dec I1.out i2 (Or.inr (by rw [hP]; exact hc))
              have I2 : (q - 1) * N1 + (r + N1) = U2 := by rw [Int.sub_mul]; have := I1.out; omega
              by_cases hr : 4294967296 ≤ r + N1
              · have hQ := D2.out.brk I2 hdec (by omega) hr
                clear I2
                go_wp2
                go_ret2
                exact ⟨by rw [RE.out]; rfl, rfl⟩
              · skip
                have IH := Lib.hid I2; clear I2
                go_wp2
                go_round
                case rel => exact ⟨q - 1, r + N1, ⟨IH.out, hdec, by omega, by omega, by omega⟩, rfl, rfl⟩
                case measure => simp [intOf]; omega
            · obtain rfl : Q0 = q := (D2.out.stop I1.out i2 (by omega)).symm
              go_wp2
              go_ret2
              exact ⟨by rw [RE.out]; rfl, rfl⟩
end Go.Proofs.YtfjfmcnnakfjnaaDoor


/-
  The contract of bits.Div64 by numbers, for a high part that is below the divisor.
-/

namespace Go.Proofs.YtfjfmcnnakfjnaaDoor

set_option maxRecDepth 100000

open Go.RowKit DivM

theorem bitLen_bd : ∀ (f x : Nat), x ≠ 0 → x < 2 ^ f → f ≤ 64 → 2 ^ (Lib.bitLen x) ≤ 2 * x ∧ x < 2 ^ (Lib.bitLen x) ∧ Lib.bitLen x ≤ f ∧ 1 ≤ Lib.bitLen x := by
  intro f
  induction f with
  | zero => intro x h0 h1 _; simp at h1; omega
  | succ f ih =>
    intro x h0 h1 hf
    have h64 : x < 2 ^ 64 := Nat.lt_of_lt_of_le h1 (Nat.pow_le_pow_right (by omega) hf)
    have hh := Lib.bitLen_half x h0 h64
    by_cases hx : x / 2 = 0
    · have : x = 1 := by omega
      subst this
      have e : Lib.bitLen 1 = 1 := rfl
      rw [e]; omega
    · obtain ⟨a, b, c, d⟩ := ih (x / 2) hx (by rw [Nat.pow_succ] at h1; omega) (by omega)
      rw [hh, Nat.pow_add]
      omega

theorem and_mask {a : Int} (a0 : 0 ≤ a) (a1 : a ≤ 18446744073709551615) : bits .and .u64 a 4294967295 = a % 4294967296 := by
  obtain ⟨x, rfl⟩ := Int.eq_ofNat_of_zero_le a0
  have h := bits_and_u64_nat x 4294967295 (by omega) (by omega)
  have e : x &&& 4294967295 = x % 4294967296 := Nat.and_two_pow_sub_one_eq_mod x 32
  rw [e] at h
  exact h

/-- What the shifts come to. -/
structure Sh (h l y S T : Int) : Prop where
  s1 : 1 ≤ S
  t1 : 1 ≤ T
  st : T * S = 18446744073709551616
  y0 : 9223372036854775808 ≤ y * S
  y1 : y * S ≤ 18446744073709551615
  h0 : 0 ≤ h
  hy : h < y
  l0 : 0 ≤ l
  l1 : l ≤ 18446744073709551615
theorem Sh.hS {h l y S T : Int} (k : Sh h l y S T) : 0 ≤ h * S ∧ h * S ≤ y * S - S := by
  have h1 := Int.mul_le_mul_of_nonneg_right (show h ≤ y - 1 by have := k.hy; omega) (show 0 ≤ S by have := k.s1; omega)
  rw [Int.sub_mul, Int.one_mul] at h1
  exact ⟨Int.mul_nonneg k.h0 (by have := k.s1; omega), h1⟩
theorem Sh.lT {h l y S T : Int} (k : Sh h l y S T) : 0 ≤ l / T ∧ l / T < S := by
  refine ⟨Int.ediv_nonneg k.l0 (by have := k.t1; omega), ?_⟩
  apply Int.ediv_lt_of_lt_mul (by have := k.t1; omega)
  have := k.st; have := k.l1; rw [Int.mul_comm]; omega
theorem Sh.lS {h l y S T : Int} (k : Sh h l y S T) : l * S = l / T * 18446744073709551616 + l % T * S ∧ 0 ≤ l % T * S ∧ l % T * S ≤ 18446744073709551615 := by
  have e := Int.emod_add_mul_ediv l T
  have e2 : l * S = (l % T + T * (l / T)) * S := by rw [e]
  have hm := Int.emod_nonneg l (show T ≠ 0 by have := k.t1; omega)
  have hl := Int.emod_lt_of_pos l (show 0 < T by have := k.t1; omega)
  have hs := k.s1
  have h1 := Int.mul_le_mul_of_nonneg_right (show l % T ≤ T - 1 by omega) (show 0 ≤ S by omega)
  rw [Int.sub_mul, Int.one_mul, k.st] at h1
  refine ⟨?_, Int.mul_nonneg hm (by omega), by omega⟩
  rw [e2, Int.add_mul, Int.mul_right_comm, k.st, Int.mul_comm 18446744073709551616]; omega
/-- The dividend, shifted. -/
theorem Sh.num {h l y S T : Int} (k : Sh h l y S T) : (h * 18446744073709551616 + l) * S = (h * S + l / T) * 18446744073709551616 + l % T * S := by
  rw [Int.add_mul, Int.mul_right_comm, k.lS.1, Int.add_mul]; omega
theorem Sh.uY {h l y S T : Int} (k : Sh h l y S T) : 0 ≤ h * S + l / T ∧ h * S + l / T < y * S := by
  have := k.hS; have := k.lT; omega

theorem emod_mul_right (a b : Int) {S : Int} (h : 0 < S) : (a * S) % (b * S) = a % b * S := by
  rw [Int.mul_comm a, Int.mul_comm b, Int.mul_emod_mul_of_pos _ _ h, Int.mul_comm]

theorem div64_n {h l y : Int} (h0 : 0 ≤ h) (hy : h < y) (y1 : y ≤ 18446744073709551615) (l0 : 0 ≤ l) (l1 : l ≤ 18446744073709551615) (w : World) (hpos : 0 < h) :
    Calls Tryd.prog 55 #[.int .u64 h, .int .u64 l, .int .u64 y] w fun e w' =>
      e = .returned (.tuple #[.int .u64 ((h * 18446744073709551616 + l) / y), .int .u64 ((h * 18446744073709551616 + l) % y)]) ∧ w' = w := by
  obtain ⟨yn, rfl⟩ := Int.eq_ofNat_of_zero_le (show 0 ≤ y by omega)
  obtain ⟨b1, b2, b3, b4⟩ := bitLen_bd 64 yn (by omega) (by omega) (by omega)
  generalize hbl : Lib.bitLen yn = n at *
  have hS1 : 1 ≤ 2 ^ (64 - n) := Nat.one_le_two_pow
  have hT1 : 1 ≤ 2 ^ n := Nat.one_le_two_pow
  have hST : 2 ^ n * 2 ^ (64 - n) = 18446744073709551616 := by rw [← Nat.pow_add, show n + (64 - n) = 64 by omega]
  have hy0 : 2 ^ n * 2 ^ (64 - n) ≤ 2 * yn * 2 ^ (64 - n) := Nat.mul_le_mul_right _ b1
  have hy2 : (yn + 1) * 2 ^ (64 - n) ≤ 2 ^ n * 2 ^ (64 - n) := Nat.mul_le_mul_right _ b2
  rw [hST] at hy0 hy2
  rw [Nat.add_mul, Nat.one_mul] at hy2
  rw [Nat.mul_assoc] at hy0
  have k : Sh h l yn (((2 ^ (64 - n) : Nat)) : Int) (((2 ^ n : Nat)) : Int) :=
    ⟨by omega, by omega, by rw [← Int.natCast_mul, hST]; rfl, by rw [← Int.natCast_mul]; omega, by rw [← Int.natCast_mul]; omega, h0, hy, l0, l1⟩
  have es : (64 - (n : Int)).toNat = 64 - n := by omega
  have es2 : (64 - (64 - (n : Int))).toNat = n := by omega
  have eS : (2 : Int) ^ (64 - (n : Int)).toNat = ((2 ^ (64 - n) : Nat) : Int) := by rw [es, Int.natCast_pow]; rfl
  have eT : (2 : Int) ^ (64 - (64 - (n : Int))).toNat = ((2 ^ n : Nat) : Int) := by rw [es2, Int.natCast_pow]; rfl
  have hk : 64 - n ≤ 63 := by omega
  generalize hSd : (((2 ^ (64 - n) : Nat)) : Int) = S at *
  generalize hTd : (((2 ^ n : Nat)) : Int) = T at *
  have hHS := k.hS; have hLT := k.lT; have hLS := k.lS; have hu := k.uY
  have ky0 := k.y0; have ky1 := k.y1; have ks := k.s1
  have hor : bits .or .u64 (h * S) (l / T) = h * S + l / T :=
    or_u64 (64 - n) hSd.symm (Int.mul_emod_left h S) hHS.1 (by omega) hLT.1 hLT.2 (by omega)
  have hyp : 0 < (yn : Int) * S := by omega
  have d1 : Dig (h * S + l / T) (l % T * S / 4294967296) (yn * S) (yn * S / 4294967296) (yn * S % 4294967296) _ :=
    ⟨by omega, by omega, by omega, by omega, by omega, hu.1, hu.2, by omega, by omega, rfl⟩
  have d2 : Dig _ (l % T * S % 4294967296) (yn * S) (yn * S / 4294967296) (yn * S % 4294967296) _ :=
    ⟨by omega, by omega, by omega, by omega, by omega, d1.rest.1, d1.rest.2, by omega, by omega, rfl⟩
  have h2 := two_digits d1 rfl d2
  have hnum := k.num
  rw [show (h * S + l / T) * 18446744073709551616 + (l % T * S / 4294967296 * 4294967296 + l % T * S % 4294967296) = (h * 18446744073709551616 + l) * S by rw [hnum]; omega] at h2
  rw [Int.mul_ediv_mul_of_pos_left _ _ (by omega : 0 < S), emod_mul_right _ _ (by omega : 0 < S)] at h2
  have hw := div64_walk h l yn (64 - n) S T (yn * S) (yn * S / 4294967296) (yn * S % 4294967296) (h * S) (l / T) (h * S + l / T) (l % T * S) (l % T * S / 4294967296) (l % T * S % 4294967296) _ _ _ w
    hpos hy y1 (by omega) (by omega) (by rw [Int.toNat_natCast, hbl]) eS eT (by rw [IntKind.wrap_u64]; omega) rfl (and_mask (by omega) (by omega)) (by rw [IntKind.wrap_u64]; omega) rfl hor
    (by rw [IntKind.wrap_u64]; omega) rfl (and_mask (by omega) (by omega)) d1 rfl d2 (by omega)
  rw [← h2.1, ← h2.2, Int.mul_ediv_cancel _ (by omega : S ≠ 0)] at hw
  exact hw

set_option maxHeartbeats 1000000 in
theorem div64_0 {l y : Int} (hy : 0 < y) (y1 : y ≤ 18446744073709551615) (l0 : 0 ≤ l) (l1 : l ≤ 18446744073709551615) (w : World) :
    Calls Tryd.prog 55 #[.int .u64 0, .int .u64 l, .int .u64 y] w fun e w' =>
      e = .returned (.tuple #[.int .u64 (l / y), .int .u64 (l % y)]) ∧ w' = w.drew := by
  have e1 : (y == 0) = false := by rw [beq_eq_false_iff_ne]; omega
  have e2 : ¬ y ≤ 0 := by omega
  have e3 : ¬ y = 0 := by omega
  have q0 : 0 ≤ l / y := Int.ediv_nonneg l0 (by omega)
  have q1 : l / y ≤ 18446744073709551615 := Int.le_trans (Int.ediv_le_self _ l0) l1
  have t1 : l.tdiv y = l / y := Int.tdiv_eq_ediv_of_nonneg l0
  have t2 : l.tmod y = l % y := Int.tmod_eq_emod_of_nonneg l0
  have t3 : IntKind.u64.wrap (l / y) = l / y := by rw [IntKind.wrap_u64]; omega
  go_enter Tryd.func55, Tryd.ntmps55
  go_wp2
  refine wp_region_held_drew (S := (fun _ => True)) (by kernel_rfl) ?_ (fun hHeld => ?_)
  · trivial
  refine H.take 0 (v := ?_) rfl (by kernel_rfl) (fun _ _ _ h => h) (by rfl) ?_ (by assumption) ?_
  rotate_left
  · (intro wz hSw; (try dsimp only at hSw); go_simp <;> with_reducible rfl)
  try simp only [Act.put, List.setIfInBounds_toArray, List.set_cons_zero, List.set_cons_succ]
  refine H.take 1 (v := ?_) rfl (by kernel_rfl) (fun _ _ _ h => h) (by rfl) ?_ (by assumption) ?_
  rotate_left
  · (intro wz hSw; (try dsimp only at hSw); go_simp <;> with_reducible rfl)
  try simp only [Act.put, List.setIfInBounds_toArray, List.set_cons_zero, List.set_cons_succ]
  refine H.take 2 (v := ?_) rfl (by kernel_rfl) (fun _ _ _ h => h) (by rfl) ?_ (by assumption) ?_
  rotate_left
  · (intro wz hSw; (try dsimp only at hSw); go_simp <;> with_reducible rfl)
  try simp only [Act.put, List.setIfInBounds_toArray, List.set_cons_zero, List.set_cons_succ]
  refine H.take 3 (v := ?_) rfl (by kernel_rfl) (fun _ _ _ h => h) (by rfl) ?_ (by assumption) ?_
  rotate_left
  · (intro wz hSw; (try dsimp only at hSw); go_simp <;> with_reducible rfl)
  try simp only [Act.put, List.setIfInBounds_toArray, List.set_cons_zero, List.set_cons_succ]
  refine H.take 4 (v := ?_) rfl (by kernel_rfl) (fun _ _ _ h => h) (by rfl) ?_ (by assumption) ?_
  rotate_left
  · (intro wz hSw; (try dsimp only at hSw); go_simp <;> with_reducible rfl)
  try simp only [Act.put, List.setIfInBounds_toArray, List.set_cons_zero, List.set_cons_succ]
  refine H.take 5 (v := ?_) rfl (by kernel_rfl) (fun _ _ _ h => h) (by rfl) ?_ (by assumption) ?_
  rotate_left
  · (intro wz hSw; (try dsimp only at hSw); go_simp <;> with_reducible rfl)
  try simp only [Act.put, List.setIfInBounds_toArray, List.set_cons_zero, List.set_cons_succ]
  refine H.take 6 (v := ?_) rfl (by kernel_rfl) (fun _ _ _ h => h) (by rfl) ?_ (by assumption) ?_
  rotate_left
  · (intro wz hSw; (try dsimp only at hSw); go_simp <;> with_reducible rfl)
  try simp only [Act.put, List.setIfInBounds_toArray, List.set_cons_zero, List.set_cons_succ]
  refine H.take 7 (v := ?_) rfl (by kernel_rfl) (fun _ _ _ h => h) (by rfl) ?_ (by assumption) ?_
  rotate_left
  · (intro wz hSw; (try dsimp only at hSw); go_simp <;> with_reducible rfl)
  try simp only [Act.put, List.setIfInBounds_toArray, List.set_cons_zero, List.set_cons_succ]
  refine H.done (by kernel_rfl) ?_ _
  go_wp2
  go_ret2
  exact ⟨rfl, rfl⟩

/-- Whatever the high part is, below the divisor. -/
theorem div64_any {h l y : Int} (h0 : 0 ≤ h) (hy : h < y) (y1 : y ≤ 18446744073709551615) (l0 : 0 ≤ l) (l1 : l ≤ 18446744073709551615) (w : World) :
    Calls Tryd.prog 55 #[.int .u64 h, .int .u64 l, .int .u64 y] w fun e w' =>
      e = .returned (.tuple #[.int .u64 ((h * 18446744073709551616 + l) / y), .int .u64 ((h * 18446744073709551616 + l) % y)]) ∧ Below w.heap.size w w' := by
  by_cases hp : 0 < h
  · refine (div64_n h0 hy y1 l0 l1 w hp).mono ?_
    rintro e w' ⟨he, rfl⟩; exact ⟨he, Below.refl _ _⟩
  · obtain rfl : 0 = h := by omega
    refine (div64_0 (by omega) y1 l0 l1 w).mono ?_
    rintro e w' ⟨rfl, rfl⟩; exact ⟨by rw [Int.zero_mul, Int.zero_add], (Below.refl _ _).drew⟩
end Go.Proofs.YtfjfmcnnakfjnaaDoor


/-
  The contract of wide.Div.
-/

namespace Go.Proofs.YtfjfmcnnakfjnaaDoor

set_option maxRecDepth 100000

open Go.RowKit

set_option maxHeartbeats 1000000 in
theorem wdiv_0 (n : Int) (w : World) :
    Calls Tryd.prog 38 #[.agg #[.int .i64 (hi n), .int .u64 (lo n)], .int .u64 0] w fun e w' =>
      e = .returned (.tuple #[.agg #[.int .i64 0, .int .u64 0], .int .u64 0, .bool false]) ∧ Below w.heap.size w w' := by
  go_enter Tryd.func38, Tryd.ntmps38
  go_wp2
  exact bodyPost_ret (v := .tuple #[.agg #[.int .i64 0, .int .u64 0], .int .u64 0, .bool false]) (by simp [results, Tryd.results38, go_sem]) rfl ⟨rfl, ((Below.refl _ _).alloc (Nat.le_refl _) _).alloc (by simp) _⟩

/-- The long division of a size, word by word. -/
theorem word_div {H L y : Int} (y0 : 0 < y) (L0 : 0 ≤ L) (L1 : L ≤ 18446744073709551615) :
    (H * 18446744073709551616 + L) / y = H / y * 18446744073709551616 + (H % y * 18446744073709551616 + L) / y ∧
    (H * 18446744073709551616 + L) % y = (H % y * 18446744073709551616 + L) % y ∧
    0 ≤ (H % y * 18446744073709551616 + L) / y ∧ (H % y * 18446744073709551616 + L) / y ≤ 18446744073709551615 := by
  have e := Int.emod_add_mul_ediv H y
  have m0 := Int.emod_nonneg H (show y ≠ 0 by omega)
  have m1 := Int.emod_lt_of_pos H y0
  have e2 : H * 18446744073709551616 + L = (H % y * 18446744073709551616 + L) + y * (H / y * 18446744073709551616) := by
    rw [← Int.mul_assoc]; generalize y * (H / y) = p at *; omega
  refine ⟨?_, ?_, Int.ediv_nonneg (by omega) (by omega), ?_⟩
  · rw [e2, Int.add_mul_ediv_left _ _ (by omega : y ≠ 0)]; omega
  · rw [e2, Int.add_mul_emod_self_left]
  · have : (H % y * 18446744073709551616 + L) / y < 18446744073709551616 := by
      apply Int.ediv_lt_of_lt_mul y0; rw [Int.mul_comm]; omega
    omega
/-- The quotient of a number below 0 out of that of its size. -/
theorem neg_div {m y : Int} (y0 : 0 < y) : (m % y = 0 → (-m) / y = -(m / y) ∧ (-m) % y = 0) ∧ (m % y ≠ 0 → (-m) / y = -(m / y + 1) ∧ (-m) % y = y - m % y) := by
  have e := Int.emod_add_mul_ediv m y
  have m0 := Int.emod_nonneg m (show y ≠ 0 by omega)
  have m1 := Int.emod_lt_of_pos m y0
  constructor
  · intro h
    have h2 : -m = 0 + y * (-(m / y)) := by rw [Int.mul_neg]; omega
    rw [h2, Int.add_mul_ediv_left _ _ (by omega : y ≠ 0), Int.add_mul_emod_self_left, Int.zero_ediv, Int.zero_emod]; omega
  · intro h
    have h2 : -m = (y - m % y) + y * (-(m / y + 1)) := by rw [Int.mul_neg, Int.mul_add]; omega
    rw [h2, Int.add_mul_ediv_left _ _ (by omega : y ≠ 0), Int.add_mul_emod_self_left, Int.ediv_eq_zero_of_lt (by omega) (by omega), Int.emod_eq_of_lt (by omega) (by omega)]; omega
theorem div_in {n y : Int} (hn : InR n) (y0 : 0 < y) : InR (n / y) := by
  unfold InR at *
  constructor
  · apply Int.le_ediv_of_mul_le y0
    have : -170141183460469231731687303715884105728 * y ≤ -170141183460469231731687303715884105728 * 1 := Int.mul_le_mul_of_nonpos_left (by omega) (by omega)
    omega
  · have : n / y < 170141183460469231731687303715884105728 := by
      apply Int.ediv_lt_of_lt_mul y0
      have : 170141183460469231731687303715884105728 * 1 ≤ 170141183460469231731687303715884105728 * y := Int.mul_le_mul_of_nonneg_left (by omega) (by omega)
      omega
    omega

theorem ret_div {v : Value} {a b : Int} (h : a = b) : Ending.returned (.tuple #[v, .int .u64 a, .bool true]) = .returned (.tuple #[v, .int .u64 b, .bool true]) := by rw [h]

set_option maxHeartbeats 4000000 in
theorem wdiv_n {n y : Int} (hn : InR n) (y0 : 0 < y) (y1 : y ≤ 18446744073709551615) (w : World) :
    Calls Tryd.prog 38 #[.agg #[.int .i64 (hi n), .int .u64 (lo n)], .int .u64 y] w fun e w' =>
      e = .returned (.tuple #[.agg #[.int .i64 (hi (n / y)), .int .u64 (lo (n / y))], .int .u64 (n % y), .bool true]) ∧ Below w.heap.size w w' := by
  have hs := sz_bd hn
  have lb := lo_bd (sz n)
  have hb0 : 0 ≤ hi (sz n) := hi_nn hs.1
  have hb1 : hi (sz n) ≤ 9223372036854775808 := hi_le hs.2
  have ma := fun w => magnitude_n hn w
  have yz : (y == 0) = false := by rw [beq_eq_false_iff_ne]; omega
  have yz2 : ¬ y = 0 := by omega
  have q1 := fun (w' : World) (h : Blk w' w.heap.size #[.int .i64 (hi n), .int .u64 (lo n)] 42) => h.two
  have q2 := fun (w' : World) (h : Blk w' (w.heap.size + 1) #[.int .i64 0, .int .u64 0] 42) => h.two
  have q3 := fun (w' : World) (h : Blk w' (w.heap.size + 1) #[.int .i64 0, .int .u64 0] 42) => h.free0
  obtain ⟨w1, w2, w3, w4⟩ := word_div y0 (H := hi (sz n)) lb.1 lb.2
  rw [hilo] at w1 w2
  have m0 := Int.emod_nonneg (hi (sz n)) (show y ≠ 0 by omega)
  have m1 := Int.emod_lt_of_pos (hi (sz n)) y0
  have qd : hi (sz n) / y ≤ 9223372036854775808 := Int.le_trans (Int.ediv_le_self _ hb0) hb1
  have qd0 : 0 ≤ hi (sz n) / y := Int.ediv_nonneg hb0 (by omega)
  have dv := fun w => div64_any m0 m1 y1 lb.1 lb.2 w
  have t1 : (hi (sz n)).tdiv y = hi (sz n) / y := Int.tdiv_eq_ediv_of_nonneg hb0
  have t2 : (hi (sz n)).tmod y = hi (sz n) % y := Int.tmod_eq_emod_of_nonneg hb0
  have t3 : IntKind.u64.wrap (hi (sz n) / y) = hi (sz n) / y := by rw [IntKind.wrap_u64]; omega
  have r0 := Int.emod_nonneg (hi (sz n) % y * 18446744073709551616 + lo (sz n)) (show y ≠ 0 by omega)
  have r1 := Int.emod_lt_of_pos (hi (sz n) % y * 18446744073709551616 + lo (sz n)) y0
  have hin := div_in hn y0
  have hneg := neg_div (m := sz n) y0
  generalize (hi (sz n) % y * 18446744073709551616 + lo (sz n)) / y = LOW at *
  generalize (hi (sz n) % y * 18446744073709551616 + lo (sz n)) % y = R at *
  rw [w1, w2] at hneg
  have DV := Lib.hid dv; have MA := Lib.hid ma
  clear dv ma
  by_cases hnn : n < 0
  · rw [show -sz n = n by rw [sz_neg hnn]; omega] at hneg
    have hd := decide_eq_true hnn
    by_cases hr : R = 0
    · obtain ⟨e1, e2⟩ := hneg.1 hr
      have hsg : clamp (sgn true (hi (sz n) / y * 18446744073709551616 + LOW)) = n / y := by simp only [sgn, if_true]; rw [← e1]; exact clamp_of hin
      have hs := fun (b : Nat) (w : World) (g : Blk w b #[.bool true] 4) => signed_any true (x := hi (sz n) / y) (y := LOW) (by omega) (by omega) w3 w4 g
      rw [hsg] at hs
      subst hr
      clear hneg w1 w2 e1 hsg
      have E2 := Lib.hid e2; clear e2
      generalize hi (sz n) / y = HI at *
      have HS := Lib.hid hs; clear hs
      go_enter Tryd.func38, Tryd.ntmps38
      go_wp2_with (go_at_call 54; refine (MA.out _).mono ?_; rintro e w1 ⟨rfl, hb1⟩; have g := Blk.keep hb1 (Blk.new (b := w.heap.size + 1) (T := 42) (by simp)); have gA := Blk.keep hb1 (Blk.old (Blk.new (b := w.heap.size) (T := 42) rfl) _); have gB := (((Below.refl w.heap.size w).alloc (Nat.le_refl _) _).alloc (by simp) _).trans (hb1.mono (by simp; omega)))
      refine wp_region_held_drew (S := (fun w' => Blk w' (w.heap.size + 1) #[.int .i64 0, .int .u64 0] 42 ∧ Blk w' w.heap.size #[.int .i64 (hi n), .int .u64 (lo n)] 42 ∧ Below w.heap.size w w')) (by kernel_rfl) ?_ (fun hHeld => ?_)
      · exact ⟨g.drew, gA.drew, gB.drew⟩
      refine H.take 0 (v := ?_) rfl (by kernel_rfl) (fun _ _ _ h => h) (by rfl) ?_ (by assumption) ?_
      rotate_left
      · (intro wz hSw; (try dsimp only at hSw); go_simp <;> with_reducible rfl)
      try simp only [Act.put, List.setIfInBounds_toArray, List.set_cons_zero, List.set_cons_succ]
      refine H.take 1 (v := ?_) rfl (by kernel_rfl) (fun _ _ _ h => h) (by rfl) ?_ (by assumption) ?_
      rotate_left
      · (intro wz hSw; (try dsimp only at hSw); go_simp <;> with_reducible rfl)
      try simp only [Act.put, List.setIfInBounds_toArray, List.set_cons_zero, List.set_cons_succ]
      refine H.take 2 (v := ?_) rfl (by kernel_rfl) (fun _ _ _ h => h) (by rfl) ?_ (by assumption) ?_
      rotate_left
      · (intro wz hSw; (try dsimp only at hSw); go_simp <;> with_reducible rfl)
      try simp only [Act.put, List.setIfInBounds_toArray, List.set_cons_zero, List.set_cons_succ]
      refine H.take 3 (v := ?_) rfl (by kernel_rfl) (fun _ _ _ h => h) (by rfl) ?_ (by assumption) ?_
      rotate_left
      · (intro wz hSw; (try dsimp only at hSw); go_simp <;> with_reducible rfl)
      try simp only [Act.put, List.setIfInBounds_toArray, List.set_cons_zero, List.set_cons_succ]
      refine H.take 4 (v := ?_) rfl (by kernel_rfl) (fun _ _ _ h => h) (by rfl) ?_ (by assumption) ?_
      rotate_left
      · (intro wz hSw; (try dsimp only at hSw); go_simp <;> with_reducible rfl)
      try simp only [Act.put, List.setIfInBounds_toArray, List.set_cons_zero, List.set_cons_succ]
      refine H.take 5 (v := ?_) rfl (by kernel_rfl) (fun _ _ _ h => h) (by rfl) ?_ (by assumption) ?_
      rotate_left
      · (intro wz hSw; (try dsimp only at hSw); go_simp <;> with_reducible rfl)
      try simp only [Act.put, List.setIfInBounds_toArray, List.set_cons_zero, List.set_cons_succ]
      refine H.take 6 (v := ?_) rfl (by kernel_rfl) (fun _ _ _ h => h) (by rfl) ?_ (by assumption) ?_
      rotate_left
      · (intro wz hSw; (try dsimp only at hSw); go_simp <;> with_reducible rfl)
      try simp only [Act.put, List.setIfInBounds_toArray, List.set_cons_zero, List.set_cons_succ]
      refine H.take 7 (v := ?_) rfl (by kernel_rfl) (fun _ _ _ h => h) (by rfl) ?_ (by assumption) ?_
      rotate_left
      · (intro wz hSw; (try dsimp only at hSw); go_simp <;> with_reducible rfl)
      try simp only [Act.put, List.setIfInBounds_toArray, List.set_cons_zero, List.set_cons_succ]
      refine H.done (by kernel_rfl) ?_ _
      clear g gA gB; obtain ⟨g, gA, gB⟩ := hHeld
      go_wp2_with (first | (go_at_call 55; refine (DV.out _).mono ?_; rintro e w2 ⟨rfl, hb2⟩; replace g := Blk.keep hb2 g; replace gA := Blk.keep hb2 gA; replace gB := gB.trans (hb2.mono gB.size)) | (go_at_call 53; refine (negative_n _ _).mono ?_; rintro e w2 ⟨rfl, hb2⟩; replace g := Blk.keep hb2 g; replace gA := Blk.keep hb2 gA; replace gB := gB.trans (hb2.mono gB.size)) | (go_at_call 57; refine (signer_any _ _).mono ?_; rintro e w2 ⟨rfl, rfl⟩; replace g := Blk.old g (.cells #[.bool true] 4); replace gB := gB.alloc gB.size (.cells #[.bool true] 4)))
      refine (HS.out _ _ (Blk.new rfl)).mono ?_
      rintro e w2 ⟨rfl, hb2⟩; replace g := Blk.keep hb2 g; replace gB := gB.trans (hb2.mono gB.size)
      go_wp2
      have hfin := (g.put (i := 0) (.int .i64 (hi (n / y)))).put (i := 1) (.int .u64 (lo (n / y)))
      exact bodyPost_ret (v := .tuple #[.agg #[.int .i64 (hi (n / y)), .int .u64 (lo (n / y))], .int .u64 0, .bool true]) (by simp [results, Tryd.results38, go_sem, (show Blk _ _ #[.int .i64 (hi (n / y)), .int .u64 (lo (n / y))] _ from hfin).two]) rfl ⟨ret_div E2.out.symm, (gB.setCell (by simp) _).setCell (by simp) _⟩
    · obtain ⟨e1, e2⟩ := hneg.2 hr
      have hr2 : (R != 0) = true := by rw [bne_iff_ne]; omega
      have hr3 : (R == 0) = false := by rw [beq_eq_false_iff_ne]; omega
      have ha := fun w => run_add64 LOW 1 0 w3 (by omega) (by omega) (by omega) w
      have hsg : clamp (sgn true ((hi (sz n) / y + (LOW + 1) / 18446744073709551616) * 18446744073709551616 + (LOW + 1) % 18446744073709551616)) = n / y := by
        simp only [sgn, if_true]; rw [show (hi (sz n) / y + (LOW + 1) / 18446744073709551616) * 18446744073709551616 + (LOW + 1) % 18446744073709551616 = hi (sz n) / y * 18446744073709551616 + LOW + 1 by omega, ← e1]; exact clamp_of hin
      have hs := fun (b : Nat) (w : World) (g : Blk w b #[.bool true] 4) => signed_any true (x := hi (sz n) / y + (LOW + 1) / 18446744073709551616) (y := (LOW + 1) % 18446744073709551616) (by omega) (by omega) (by omega) (by omega) g
      rw [hsg] at hs
      clear hneg w1 w2 e1 hsg
      have E2 := Lib.hid e2; clear e2
      generalize hi (sz n) / y = HI at *
      have HS := Lib.hid hs; clear hs
      go_enter Tryd.func38, Tryd.ntmps38
      go_wp2_with (go_at_call 54; refine (MA.out _).mono ?_; rintro e w1 ⟨rfl, hb1⟩; have g := Blk.keep hb1 (Blk.new (b := w.heap.size + 1) (T := 42) (by simp)); have gA := Blk.keep hb1 (Blk.old (Blk.new (b := w.heap.size) (T := 42) rfl) _); have gB := (((Below.refl w.heap.size w).alloc (Nat.le_refl _) _).alloc (by simp) _).trans (hb1.mono (by simp; omega)))
      refine wp_region_held_drew (S := (fun w' => Blk w' (w.heap.size + 1) #[.int .i64 0, .int .u64 0] 42 ∧ Blk w' w.heap.size #[.int .i64 (hi n), .int .u64 (lo n)] 42 ∧ Below w.heap.size w w')) (by kernel_rfl) ?_ (fun hHeld => ?_)
      · exact ⟨g.drew, gA.drew, gB.drew⟩
      refine H.take 0 (v := ?_) rfl (by kernel_rfl) (fun _ _ _ h => h) (by rfl) ?_ (by assumption) ?_
      rotate_left
      · (intro wz hSw; (try dsimp only at hSw); go_simp <;> with_reducible rfl)
      try simp only [Act.put, List.setIfInBounds_toArray, List.set_cons_zero, List.set_cons_succ]
      refine H.take 1 (v := ?_) rfl (by kernel_rfl) (fun _ _ _ h => h) (by rfl) ?_ (by assumption) ?_
      rotate_left
      · (intro wz hSw; (try dsimp only at hSw); go_simp <;> with_reducible rfl)
      try simp only [Act.put, List.setIfInBounds_toArray, List.set_cons_zero, List.set_cons_succ]
      refine H.take 2 (v := ?_) rfl (by kernel_rfl) (fun _ _ _ h => h) (by rfl) ?_ (by assumption) ?_
      rotate_left
      · (intro wz hSw; (try dsimp only at hSw); go_simp <;> with_reducible rfl)
      try simp only [Act.put, List.setIfInBounds_toArray, List.set_cons_zero, List.set_cons_succ]
      refine H.take 3 (v := ?_) rfl (by kernel_rfl) (fun _ _ _ h => h) (by rfl) ?_ (by assumption) ?_
      rotate_left
      · (intro wz hSw; (try dsimp only at hSw); go_simp <;> with_reducible rfl)
      try simp only [Act.put, List.setIfInBounds_toArray, List.set_cons_zero, List.set_cons_succ]
      refine H.take 4 (v := ?_) rfl (by kernel_rfl) (fun _ _ _ h => h) (by rfl) ?_ (by assumption) ?_
      rotate_left
      · (intro wz hSw; (try dsimp only at hSw); go_simp <;> with_reducible rfl)
      try simp only [Act.put, List.setIfInBounds_toArray, List.set_cons_zero, List.set_cons_succ]
      refine H.take 5 (v := ?_) rfl (by kernel_rfl) (fun _ _ _ h => h) (by rfl) ?_ (by assumption) ?_
      rotate_left
      · (intro wz hSw; (try dsimp only at hSw); go_simp <;> with_reducible rfl)
      try simp only [Act.put, List.setIfInBounds_toArray, List.set_cons_zero, List.set_cons_succ]
      refine H.take 6 (v := ?_) rfl (by kernel_rfl) (fun _ _ _ h => h) (by rfl) ?_ (by assumption) ?_
      rotate_left
      · (intro wz hSw; (try dsimp only at hSw); go_simp <;> with_reducible rfl)
      try simp only [Act.put, List.setIfInBounds_toArray, List.set_cons_zero, List.set_cons_succ]
      refine H.take 7 (v := ?_) rfl (by kernel_rfl) (fun _ _ _ h => h) (by rfl) ?_ (by assumption) ?_
      rotate_left
      · (intro wz hSw; (try dsimp only at hSw); go_simp <;> with_reducible rfl)
      try simp only [Act.put, List.setIfInBounds_toArray, List.set_cons_zero, List.set_cons_succ]
      refine H.done (by kernel_rfl) ?_ _
      clear g gA gB; obtain ⟨g, gA, gB⟩ := hHeld
      go_wp2_with (first | (go_at_call 55; refine (DV.out _).mono ?_; rintro e w2 ⟨rfl, hb2⟩; replace g := Blk.keep hb2 g; replace gA := Blk.keep hb2 gA; replace gB := gB.trans (hb2.mono gB.size)) | (go_at_call 53; refine (negative_n _ _).mono ?_; rintro e w2 ⟨rfl, hb2⟩; replace g := Blk.keep hb2 g; replace gA := Blk.keep hb2 gA; replace gB := gB.trans (hb2.mono gB.size)) | (go_at_call 57; refine (signer_any _ _).mono ?_; rintro e w2 ⟨rfl, rfl⟩; replace g := Blk.old g (.cells #[.bool true] 4); replace gB := gB.alloc gB.size (.cells #[.bool true] 4)))
      refine (HS.out _ _ (Blk.new rfl)).mono ?_
      rintro e w2 ⟨rfl, hb2⟩; replace g := Blk.keep hb2 g; replace gB := gB.trans (hb2.mono gB.size)
      go_wp2
      have hfin := (g.put (i := 0) (.int .i64 (hi (n / y)))).put (i := 1) (.int .u64 (lo (n / y)))
      exact bodyPost_ret (v := .tuple #[.agg #[.int .i64 (hi (n / y)), .int .u64 (lo (n / y))], .int .u64 (y - R), .bool true]) (by simp [results, Tryd.results38, go_sem, (show Blk _ _ #[.int .i64 (hi (n / y)), .int .u64 (lo (n / y))] _ from hfin).two]) rfl ⟨ret_div E2.out.symm, (gB.setCell (by simp) _).setCell (by simp) _⟩
  · have e0 := sz_pos (show 0 ≤ n by omega)
    have hd := decide_eq_false hnn
    have hsg : clamp (sgn false (hi (sz n) / y * 18446744073709551616 + LOW)) = n / y := by simp only [sgn, Bool.false_eq_true, if_false]; rw [← w1, e0]; exact clamp_of hin
    have e2 : n % y = R := by rw [← w2, e0]
    have hs := fun (b : Nat) (w : World) (g : Blk w b #[.bool false] 4) => signed_any false (x := hi (sz n) / y) (y := LOW) (by omega) (by omega) w3 w4 g
    rw [hsg] at hs
    clear hneg w1 w2 hsg
    have E2 := Lib.hid e2; clear e2 e0
    generalize hi (sz n) / y = HI at *
    have HS := Lib.hid hs; clear hs
    go_enter Tryd.func38, Tryd.ntmps38
    go_wp2_with (go_at_call 54; refine (MA.out _).mono ?_; rintro e w1 ⟨rfl, hb1⟩; have g := Blk.keep hb1 (Blk.new (b := w.heap.size + 1) (T := 42) (by simp)); have gA := Blk.keep hb1 (Blk.old (Blk.new (b := w.heap.size) (T := 42) rfl) _); have gB := (((Below.refl w.heap.size w).alloc (Nat.le_refl _) _).alloc (by simp) _).trans (hb1.mono (by simp; omega)))
    refine wp_region_held_drew (S := (fun w' => Blk w' (w.heap.size + 1) #[.int .i64 0, .int .u64 0] 42 ∧ Blk w' w.heap.size #[.int .i64 (hi n), .int .u64 (lo n)] 42 ∧ Below w.heap.size w w')) (by kernel_rfl) ?_ (fun hHeld => ?_)
    · exact ⟨g.drew, gA.drew, gB.drew⟩
    refine H.take 0 (v := ?_) rfl (by kernel_rfl) (fun _ _ _ h => h) (by rfl) ?_ (by assumption) ?_
    rotate_left
    · (intro wz hSw; (try dsimp only at hSw); go_simp <;> with_reducible rfl)
    try simp only [Act.put, List.setIfInBounds_toArray, List.set_cons_zero, List.set_cons_succ]
    refine H.take 1 (v := ?_) rfl (by kernel_rfl) (fun _ _ _ h => h) (by rfl) ?_ (by assumption) ?_
    rotate_left
    · (intro wz hSw; (try dsimp only at hSw); go_simp <;> with_reducible rfl)
    try simp only [Act.put, List.setIfInBounds_toArray, List.set_cons_zero, List.set_cons_succ]
    refine H.take 2 (v := ?_) rfl (by kernel_rfl) (fun _ _ _ h => h) (by rfl) ?_ (by assumption) ?_
    rotate_left
    · (intro wz hSw; (try dsimp only at hSw); go_simp <;> with_reducible rfl)
    try simp only [Act.put, List.setIfInBounds_toArray, List.set_cons_zero, List.set_cons_succ]
    refine H.take 3 (v := ?_) rfl (by kernel_rfl) (fun _ _ _ h => h) (by rfl) ?_ (by assumption) ?_
    rotate_left
    · (intro wz hSw; (try dsimp only at hSw); go_simp <;> with_reducible rfl)
    try simp only [Act.put, List.setIfInBounds_toArray, List.set_cons_zero, List.set_cons_succ]
    refine H.take 4 (v := ?_) rfl (by kernel_rfl) (fun _ _ _ h => h) (by rfl) ?_ (by assumption) ?_
    rotate_left
    · (intro wz hSw; (try dsimp only at hSw); go_simp <;> with_reducible rfl)
    try simp only [Act.put, List.setIfInBounds_toArray, List.set_cons_zero, List.set_cons_succ]
    refine H.take 5 (v := ?_) rfl (by kernel_rfl) (fun _ _ _ h => h) (by rfl) ?_ (by assumption) ?_
    rotate_left
    · (intro wz hSw; (try dsimp only at hSw); go_simp <;> with_reducible rfl)
    try simp only [Act.put, List.setIfInBounds_toArray, List.set_cons_zero, List.set_cons_succ]
    refine H.take 6 (v := ?_) rfl (by kernel_rfl) (fun _ _ _ h => h) (by rfl) ?_ (by assumption) ?_
    rotate_left
    · (intro wz hSw; (try dsimp only at hSw); go_simp <;> with_reducible rfl)
    try simp only [Act.put, List.setIfInBounds_toArray, List.set_cons_zero, List.set_cons_succ]
    refine H.take 7 (v := ?_) rfl (by kernel_rfl) (fun _ _ _ h => h) (by rfl) ?_ (by assumption) ?_
    rotate_left
    · (intro wz hSw; (try dsimp only at hSw); go_simp <;> with_reducible rfl)
    try simp only [Act.put, List.setIfInBounds_toArray, List.set_cons_zero, List.set_cons_succ]
    refine H.done (by kernel_rfl) ?_ _
    clear g gA gB; obtain ⟨g, gA, gB⟩ := hHeld
    go_wp2_with (first | (go_at_call 55; refine (DV.out _).mono ?_; rintro e w2 ⟨rfl, hb2⟩; replace g := Blk.keep hb2 g; replace gA := Blk.keep hb2 gA; replace gB := gB.trans (hb2.mono gB.size)) | (go_at_call 53; refine (negative_n _ _).mono ?_; rintro e w2 ⟨rfl, hb2⟩; replace g := Blk.keep hb2 g; replace gA := Blk.keep hb2 gA; replace gB := gB.trans (hb2.mono gB.size)) | (go_at_call 57; refine (signer_any _ _).mono ?_; rintro e w2 ⟨rfl, rfl⟩; replace g := Blk.old g (.cells #[.bool false] 4); replace gB := gB.alloc gB.size (.cells #[.bool false] 4)))
    refine (HS.out _ _ (Blk.new rfl)).mono ?_
    rintro e w2 ⟨rfl, hb2⟩; replace g := Blk.keep hb2 g; replace gB := gB.trans (hb2.mono gB.size)
    go_wp2
    have hfin := (g.put (i := 0) (.int .i64 (hi (n / y)))).put (i := 1) (.int .u64 (lo (n / y)))
    exact bodyPost_ret (v := .tuple #[.agg #[.int .i64 (hi (n / y)), .int .u64 (lo (n / y))], .int .u64 R, .bool true]) (by simp [results, Tryd.results38, go_sem, (show Blk _ _ #[.int .i64 (hi (n / y)), .int .u64 (lo (n / y))] _ from hfin).two]) rfl ⟨ret_div E2.out.symm, (gB.setCell (by simp) _).setCell (by simp) _⟩
end Go.Proofs.YtfjfmcnnakfjnaaDoor


/-
  The contract of wide.Root.
-/

namespace Go.Proofs.YtfjfmcnnakfjnaaDoor

open Go.RowKit

def pw (k : Nat) : Int := ((2 ^ k : Nat) : Int)
theorem pw_pos (k : Nat) : 1 ≤ pw k := by unfold pw; have := Nat.one_le_two_pow (n := k); omega
theorem pw_succ (k : Nat) : pw (k + 1) = 2 * pw k := by unfold pw; rw [Nat.pow_succ]; omega
theorem pw_le {k : Nat} (h : k ≤ 64) : pw k ≤ 18446744073709551616 := by
  unfold pw; have := Nat.pow_le_pow_right (n := 2) (by omega) h; omega

/-- What holds at the head of Root's loop: r is a multiple of p = 2^k, and the root lies from r on, below r + p. -/
def RootInv (n r : Int) (k : Nat) : Prop := k ≤ 64 ∧ 0 ≤ r ∧ r % pw k = 0 ∧ r + pw k ≤ 18446744073709551616 ∧ r * r ≤ n ∧ n < (r + pw k) * (r + pw k)

theorem RootInv.start {n : Int} (h0 : 0 ≤ n) (h1 : n ≤ 170141183460469231731687303715884105727) : RootInv n 0 64 := by
  refine ⟨by omega, by omega, by simp, by decide, by omega, ?_⟩
  have : (0 + pw 64) * (0 + pw 64) = 340282366920938463463374607431768211456 := by decide
  rw [this]; omega
theorem mod_half {r p : Int} (h : r % (2 * p) = 0) : r % p = 0 := by
  have := Int.emod_emod_of_dvd r (Int.dvd_mul_left 2 p); rw [h] at this; simpa using this.symm
theorem RootInv.no {n r : Int} {k : Nat} (h : RootInv n r (k + 1)) (hn : ¬ (r + pw k) * (r + pw k) ≤ n) : RootInv n r k := by
  obtain ⟨a, b, c, d, e, f⟩ := h
  rw [pw_succ] at c d
  have := pw_pos k
  exact ⟨by omega, b, mod_half c, by omega, e, by omega⟩
theorem RootInv.yes {n r : Int} {k : Nat} (h : RootInv n r (k + 1)) (hn : (r + pw k) * (r + pw k) ≤ n) : RootInv n (r + pw k) k := by
  obtain ⟨a, b, c, d, e, f⟩ := h
  rw [pw_succ] at c d f
  have := pw_pos k
  refine ⟨by omega, by omega, ?_, by omega, hn, ?_⟩
  · rw [Int.add_emod_right]; exact mod_half c
  · rw [show r + pw k + pw k = r + 2 * pw k by omega]; exact f
/-- The integer root: r. -/
def IsRoot (n r : Int) : Prop := 0 ≤ r ∧ r ≤ 18446744073709551615 ∧ r * r ≤ n ∧ n < (r + 1) * (r + 1)
theorem RootInv.fin {n r : Int} (h : RootInv n r 0) : IsRoot n r := by
  obtain ⟨a, b, c, d, e, f⟩ := h
  exact ⟨b, by have : pw 0 = 1 := rfl; omega, e, f⟩
def RootPost (n : Int) (w : World) (e : Ending) (w' : World) : Prop := ∃ r, IsRoot n r ∧ e = .returned (.int .u64 r) ∧ Below w.heap.size w w'

/-- At a round's head: the bit is half of 2^k. -/
def RootAt (n : Int) (R B : Value) : Prop := ∃ (r : Int) (k : Nat), RootInv n r k ∧ R = .int .u64 r ∧ B = .int .u64 (pw k / 2)

end Go.Proofs.YtfjfmcnnakfjnaaDoor


/-
  Contracts of package wide: Clip, Root.
-/

namespace Go.Proofs.YtfjfmcnnakfjnaaDoor

set_option maxRecDepth 100000

open Go.RowKit

/-- A number cut to 64 bits. -/
def clip (n : Int) : Int := if n < -9223372036854775808 then -9223372036854775808 else if 9223372036854775807 < n then 9223372036854775807 else n

set_option maxHeartbeats 1000000 in
theorem clip_n {n : Int} (hn : InR n) (w : World) :
    Calls Tryd.prog 33 #[.agg #[.int .i64 (hi n), .int .u64 (lo n)]] w fun e w' =>
      e = .returned (.int .i64 (clip n)) ∧ Below w.heap.size w w' := by
  have hb := hi_bd hn; have lb := lo_bd n; have hl := hilo n
  obtain ⟨t, ht⟩ : ∃ t, IntKind.i64.wrap (lo n) = t := ⟨_, rfl⟩
  have hw := IntKind.wrap_i64 (lo n)
  have t0 : -9223372036854775808 ≤ t := by omega
  have t1 : t ≤ 9223372036854775807 := by omega
  have ho := fun w => of_any t t0 t1 w
  have hng := fun w => negative_n n w
  have HN := Lib.hid hng; clear hng
  rcases (by omega : (n < -9223372036854775808 ∨ 9223372036854775807 < n) ∨ (-9223372036854775808 ≤ n ∧ n ≤ 9223372036854775807)) with h | h
  · have e1 : ¬ (hi t = hi n ∧ lo t = lo n) := fun k => by
      have := hilo_inj k.1 k.2; omega
    have e2 : clip n = if n < 0 then -9223372036854775808 else 9223372036854775807 := by unfold clip; split <;> split <;> (try split) <;> omega
    rw [e2]; clear e2 hl hw hb
    have q1 := fun (w' : World) (h : Blk w' w.heap.size #[.int .i64 (hi n), .int .u64 (lo n)] 42) => h.two
    generalize hi n = A at *; generalize lo n = B at *; generalize hi t = C at *; generalize lo t = D at *
    have HO := Lib.hid ho; clear ho
    by_cases h1 : C = A
    · obtain rfl : A = C := h1.symm
      have e3 : (D == B) = false := by rw [beq_eq_false_iff_ne]; omega
      clear e1 h
      by_cases hneg : n < 0
      · rw [if_pos hneg]
        go_enter Tryd.func33, Tryd.ntmps33
        go_wp2
        refine wp_region_held_drew (S := (fun w' => Blk w' w.heap.size #[.int .i64 A, .int .u64 B] 42 ∧ Below w.heap.size w w')) (by kernel_rfl) ?_ (fun hHeld => ?_)
        · exact ⟨(Blk.new rfl).drew, ((Below.refl w.heap.size w).alloc (Nat.le_refl _) _).drew⟩
        refine H.take 0 (v := ?_) rfl (by kernel_rfl) (fun _ _ _ h => h) (by rfl) ?_ (by assumption) ?_
        rotate_left
        · (intro wz hSw; (try dsimp only at hSw); go_simp <;> with_reducible rfl)
        try simp only [Act.put, List.setIfInBounds_toArray, List.set_cons_zero, List.set_cons_succ]
        refine H.take 2 (v := ?_) rfl (by kernel_rfl) (fun _ _ _ h => h) (by rfl) ?_ (by assumption) ?_
        rotate_left
        · (intro wz hSw; (try dsimp only at hSw); go_simp <;> with_reducible rfl)
        try simp only [Act.put, List.setIfInBounds_toArray, List.set_cons_zero, List.set_cons_succ]
        refine H.ready [1] (by kernel_rfl) (by simp) ?_
        refine H.one rfl (by rfl) (fun K hK => ?_) AllReadyH.nil
        go_simp
        go_at_call 34
        refine (HO.out _).mono ?_
        rintro e w' ⟨rfl, hb⟩
        refine hK.out _ _ ?_ (fun hHeld2 => ?_)
        · exact ⟨Blk.keep hb hHeld.1, hHeld.2.trans (hb.mono hHeld.2.size)⟩
        clear hHeld hK K; have hHeld := hHeld2; clear hHeld2
        try simp only [Act.put, List.setIfInBounds_toArray, List.set_cons_zero, List.set_cons_succ]
        refine H.take 3 (v := ?_) rfl (by kernel_rfl) (fun _ _ _ h => h) (by rfl) ?_ (by assumption) ?_
        rotate_left
        · (intro wz hSw; (try dsimp only at hSw); go_simp <;> with_reducible rfl)
        try simp only [Act.put, List.setIfInBounds_toArray, List.set_cons_zero, List.set_cons_succ]
        refine H.done (by kernel_rfl) ?_ _
        obtain ⟨g, gB⟩ := hHeld
        go_wp2_with (go_at_call 53; refine (HN.out _).mono ?_; rintro e w1 ⟨rfl, hb1⟩; replace gB := gB.trans (hb1.mono gB.size))
        go_ret
        exact ⟨rfl, gB⟩
      · rw [if_neg hneg]
        have hd := decide_eq_false hneg
        go_enter Tryd.func33, Tryd.ntmps33
        go_wp2
        refine wp_region_held_drew (S := (fun w' => Blk w' w.heap.size #[.int .i64 A, .int .u64 B] 42 ∧ Below w.heap.size w w')) (by kernel_rfl) ?_ (fun hHeld => ?_)
        · exact ⟨(Blk.new rfl).drew, ((Below.refl w.heap.size w).alloc (Nat.le_refl _) _).drew⟩
        refine H.take 0 (v := ?_) rfl (by kernel_rfl) (fun _ _ _ h => h) (by rfl) ?_ (by assumption) ?_
        rotate_left
        · (intro wz hSw; (try dsimp only at hSw); go_simp <;> with_reducible rfl)
        try simp only [Act.put, List.setIfInBounds_toArray, List.set_cons_zero, List.set_cons_succ]
        refine H.take 2 (v := ?_) rfl (by kernel_rfl) (fun _ _ _ h => h) (by rfl) ?_ (by assumption) ?_
        rotate_left
        · (intro wz hSw; (try dsimp only at hSw); go_simp <;> with_reducible rfl)
        try simp only [Act.put, List.setIfInBounds_toArray, List.set_cons_zero, List.set_cons_succ]
        refine H.ready [1] (by kernel_rfl) (by simp) ?_
        refine H.one rfl (by rfl) (fun K hK => ?_) AllReadyH.nil
        go_simp
        go_at_call 34
        refine (HO.out _).mono ?_
        rintro e w' ⟨rfl, hb⟩
        refine hK.out _ _ ?_ (fun hHeld2 => ?_)
        · exact ⟨Blk.keep hb hHeld.1, hHeld.2.trans (hb.mono hHeld.2.size)⟩
        clear hHeld hK K; have hHeld := hHeld2; clear hHeld2
        try simp only [Act.put, List.setIfInBounds_toArray, List.set_cons_zero, List.set_cons_succ]
        refine H.take 3 (v := ?_) rfl (by kernel_rfl) (fun _ _ _ h => h) (by rfl) ?_ (by assumption) ?_
        rotate_left
        · (intro wz hSw; (try dsimp only at hSw); go_simp <;> with_reducible rfl)
        try simp only [Act.put, List.setIfInBounds_toArray, List.set_cons_zero, List.set_cons_succ]
        refine H.done (by kernel_rfl) ?_ _
        obtain ⟨g, gB⟩ := hHeld
        go_wp2_with (go_at_call 53; refine (HN.out _).mono ?_; rintro e w1 ⟨rfl, hb1⟩; replace gB := gB.trans (hb1.mono gB.size))
        go_ret
        exact ⟨rfl, gB⟩
    · have e3 : (C == A) = false := by rw [beq_eq_false_iff_ne]; omega
      clear e1 h
      by_cases hneg : n < 0
      · rw [if_pos hneg]
        go_enter Tryd.func33, Tryd.ntmps33
        go_wp2
        refine wp_region_held_drew (S := (fun w' => Blk w' w.heap.size #[.int .i64 A, .int .u64 B] 42 ∧ Below w.heap.size w w')) (by kernel_rfl) ?_ (fun hHeld => ?_)
        · exact ⟨(Blk.new rfl).drew, ((Below.refl w.heap.size w).alloc (Nat.le_refl _) _).drew⟩
        refine H.take 0 (v := ?_) rfl (by kernel_rfl) (fun _ _ _ h => h) (by rfl) ?_ (by assumption) ?_
        rotate_left
        · (intro wz hSw; (try dsimp only at hSw); go_simp <;> with_reducible rfl)
        try simp only [Act.put, List.setIfInBounds_toArray, List.set_cons_zero, List.set_cons_succ]
        refine H.take 2 (v := ?_) rfl (by kernel_rfl) (fun _ _ _ h => h) (by rfl) ?_ (by assumption) ?_
        rotate_left
        · (intro wz hSw; (try dsimp only at hSw); go_simp <;> with_reducible rfl)
        try simp only [Act.put, List.setIfInBounds_toArray, List.set_cons_zero, List.set_cons_succ]
        refine H.ready [1] (by kernel_rfl) (by simp) ?_
        refine H.one rfl (by rfl) (fun K hK => ?_) AllReadyH.nil
        go_simp
        go_at_call 34
        refine (HO.out _).mono ?_
        rintro e w' ⟨rfl, hb⟩
        refine hK.out _ _ ?_ (fun hHeld2 => ?_)
        · exact ⟨Blk.keep hb hHeld.1, hHeld.2.trans (hb.mono hHeld.2.size)⟩
        clear hHeld hK K; have hHeld := hHeld2; clear hHeld2
        try simp only [Act.put, List.setIfInBounds_toArray, List.set_cons_zero, List.set_cons_succ]
        refine H.take 3 (v := ?_) rfl (by kernel_rfl) (fun _ _ _ h => h) (by rfl) ?_ (by assumption) ?_
        rotate_left
        · (intro wz hSw; (try dsimp only at hSw); go_simp <;> with_reducible rfl)
        try simp only [Act.put, List.setIfInBounds_toArray, List.set_cons_zero, List.set_cons_succ]
        refine H.done (by kernel_rfl) ?_ _
        obtain ⟨g, gB⟩ := hHeld
        go_wp2_with (go_at_call 53; refine (HN.out _).mono ?_; rintro e w1 ⟨rfl, hb1⟩; replace gB := gB.trans (hb1.mono gB.size))
        go_ret
        exact ⟨rfl, gB⟩
      · rw [if_neg hneg]
        have hd := decide_eq_false hneg
        go_enter Tryd.func33, Tryd.ntmps33
        go_wp2
        refine wp_region_held_drew (S := (fun w' => Blk w' w.heap.size #[.int .i64 A, .int .u64 B] 42 ∧ Below w.heap.size w w')) (by kernel_rfl) ?_ (fun hHeld => ?_)
        · exact ⟨(Blk.new rfl).drew, ((Below.refl w.heap.size w).alloc (Nat.le_refl _) _).drew⟩
        refine H.take 0 (v := ?_) rfl (by kernel_rfl) (fun _ _ _ h => h) (by rfl) ?_ (by assumption) ?_
        rotate_left
        · (intro wz hSw; (try dsimp only at hSw); go_simp <;> with_reducible rfl)
        try simp only [Act.put, List.setIfInBounds_toArray, List.set_cons_zero, List.set_cons_succ]
        refine H.take 2 (v := ?_) rfl (by kernel_rfl) (fun _ _ _ h => h) (by rfl) ?_ (by assumption) ?_
        rotate_left
        · (intro wz hSw; (try dsimp only at hSw); go_simp <;> with_reducible rfl)
        try simp only [Act.put, List.setIfInBounds_toArray, List.set_cons_zero, List.set_cons_succ]
        refine H.ready [1] (by kernel_rfl) (by simp) ?_
        refine H.one rfl (by rfl) (fun K hK => ?_) AllReadyH.nil
        go_simp
        go_at_call 34
        refine (HO.out _).mono ?_
        rintro e w' ⟨rfl, hb⟩
        refine hK.out _ _ ?_ (fun hHeld2 => ?_)
        · exact ⟨Blk.keep hb hHeld.1, hHeld.2.trans (hb.mono hHeld.2.size)⟩
        clear hHeld hK K; have hHeld := hHeld2; clear hHeld2
        try simp only [Act.put, List.setIfInBounds_toArray, List.set_cons_zero, List.set_cons_succ]
        refine H.take 3 (v := ?_) rfl (by kernel_rfl) (fun _ _ _ h => h) (by rfl) ?_ (by assumption) ?_
        rotate_left
        · (intro wz hSw; (try dsimp only at hSw); go_simp <;> with_reducible rfl)
        try simp only [Act.put, List.setIfInBounds_toArray, List.set_cons_zero, List.set_cons_succ]
        refine H.done (by kernel_rfl) ?_ _
        obtain ⟨g, gB⟩ := hHeld
        go_wp2_with (go_at_call 53; refine (HN.out _).mono ?_; rintro e w1 ⟨rfl, hb1⟩; replace gB := gB.trans (hb1.mono gB.size))
        go_ret
        exact ⟨rfl, gB⟩
  · obtain rfl : n = t := by omega
    have e2 : clip n = n := by unfold clip; rw [if_neg (by omega), if_neg (by omega)]
    rw [e2]; clear e2 hl hw hb h
    have q1 := fun (w' : World) (h : Blk w' w.heap.size #[.int .i64 (hi n), .int .u64 (lo n)] 42) => h.two
    generalize hi n = A at *; generalize lo n = B at *
    have HO := Lib.hid ho; clear ho
    go_enter Tryd.func33, Tryd.ntmps33
    go_wp2
    refine wp_region_held_drew (S := (fun w' => Blk w' w.heap.size #[.int .i64 A, .int .u64 B] 42 ∧ Below w.heap.size w w')) (by kernel_rfl) ?_ (fun hHeld => ?_)
    · exact ⟨(Blk.new rfl).drew, ((Below.refl w.heap.size w).alloc (Nat.le_refl _) _).drew⟩
    refine H.take 0 (v := ?_) rfl (by kernel_rfl) (fun _ _ _ h => h) (by rfl) ?_ (by assumption) ?_
    rotate_left
    · (intro wz hSw; (try dsimp only at hSw); go_simp <;> with_reducible rfl)
    try simp only [Act.put, List.setIfInBounds_toArray, List.set_cons_zero, List.set_cons_succ]
    refine H.take 2 (v := ?_) rfl (by kernel_rfl) (fun _ _ _ h => h) (by rfl) ?_ (by assumption) ?_
    rotate_left
    · (intro wz hSw; (try dsimp only at hSw); go_simp <;> with_reducible rfl)
    try simp only [Act.put, List.setIfInBounds_toArray, List.set_cons_zero, List.set_cons_succ]
    refine H.ready [1] (by kernel_rfl) (by simp) ?_
    refine H.one rfl (by rfl) (fun K hK => ?_) AllReadyH.nil
    go_simp
    go_at_call 34
    refine (HO.out _).mono ?_
    rintro e w' ⟨rfl, hb⟩
    refine hK.out _ _ ?_ (fun hHeld2 => ?_)
    · exact ⟨Blk.keep hb hHeld.1, hHeld.2.trans (hb.mono hHeld.2.size)⟩
    clear hHeld hK K; have hHeld := hHeld2; clear hHeld2
    try simp only [Act.put, List.setIfInBounds_toArray, List.set_cons_zero, List.set_cons_succ]
    refine H.take 3 (v := ?_) rfl (by kernel_rfl) (fun _ _ _ h => h) (by rfl) ?_ (by assumption) ?_
    rotate_left
    · (intro wz hSw; (try dsimp only at hSw); go_simp <;> with_reducible rfl)
    try simp only [Act.put, List.setIfInBounds_toArray, List.set_cons_zero, List.set_cons_succ]
    refine H.done (by kernel_rfl) ?_ _
    obtain ⟨g, gB⟩ := hHeld
    go_wp2_with (go_at_call 53; refine (HN.out _).mono ?_; rintro e w1 ⟨rfl, hb1⟩; replace gB := gB.trans (hb1.mono gB.size))
    go_ret
    exact ⟨rfl, gB⟩
end Go.Proofs.YtfjfmcnnakfjnaaDoor


/-
  The contracts of the program's wide, as oracles of a reading.
-/




namespace Go.Proofs.YtfjfmcnnakfjnaaDoor

set_option maxRecDepth 100000

open Go.Den Go.RowKit
noncomputable section

def W2 (h l : Int) : Int := h * 18446744073709551616 + l
def wv (n : Int) : Value := .agg #[.int .i64 (hi n), .int .u64 (lo n)]
def okI (n : Int) : Bool := decide (-9223372036854775808 ≤ n) && decide (n ≤ 9223372036854775807)
def okU (n : Int) : Bool := decide (0 ≤ n) && decide (n ≤ 18446744073709551615)
def okW (h l : Int) : Bool := okI h && okU l
theorem okI_iff {n : Int} : okI n = true ↔ -9223372036854775808 ≤ n ∧ n ≤ 9223372036854775807 := by simp [okI]
theorem okU_iff {n : Int} : okU n = true ↔ 0 ≤ n ∧ n ≤ 18446744073709551615 := by simp [okU]
theorem okW_iff {h l : Int} : okW h l = true ↔ (-9223372036854775808 ≤ h ∧ h ≤ 9223372036854775807) ∧ 0 ≤ l ∧ l ≤ 18446744073709551615 := by simp [okW, okI_iff, okU_iff]
theorem W2_hilo (n : Int) : W2 (hi n) (lo n) = n := hilo n
theorem hi_W2 {h l : Int} (k : okW h l = true) : hi (W2 h l) = h ∧ lo (W2 h l) = l ∧ InR (W2 h l) := by
  rw [okW_iff] at k
  unfold hi lo InR W2; omega
theorem okW_hilo {n : Int} (h : InR n) : okW (hi n) (lo n) = true := okW_iff.2 ⟨hi_bd h, lo_bd n⟩
theorem wv_W2 {h l : Int} (k : okW h l = true) : wv (W2 h l) = .agg #[.int .i64 h, .int .u64 l] := by
  unfold wv; rw [(hi_W2 k).1, (hi_W2 k).2.1]
def ofS : Array Value → Option (Bool × Value)
  | ⟨[.int .i64 n]⟩ => some (okI n, wv n)
  | _ => none
def addS : Array Value → Option (Bool × Value)
  | ⟨[.agg ⟨[.int .i64 h1, .int .u64 l1]⟩, .agg ⟨[.int .i64 h2, .int .u64 l2]⟩]⟩ => some (okW h1 l1 && okW h2 l2, wv (clamp (W2 h1 l1 + W2 h2 l2)))
  | _ => none
def subS : Array Value → Option (Bool × Value)
  | ⟨[.agg ⟨[.int .i64 h1, .int .u64 l1]⟩, .agg ⟨[.int .i64 h2, .int .u64 l2]⟩]⟩ => some (okW h1 l1 && okW h2 l2, wv (clamp (W2 h1 l1 - W2 h2 l2)))
  | _ => none
def negS : Array Value → Option (Bool × Value)
  | ⟨[.agg ⟨[.int .i64 h, .int .u64 l]⟩]⟩ => some (okW h l, wv (clamp (-W2 h l)))
  | _ => none
def absS : Array Value → Option (Bool × Value)
  | ⟨[.agg ⟨[.int .i64 h, .int .u64 l]⟩]⟩ => some (okW h l, wv (clamp (sz (W2 h l))))
  | _ => none
def halfS : Array Value → Option (Bool × Value)
  | ⟨[.agg ⟨[.int .i64 h, .int .u64 l]⟩]⟩ => some (okU l, wv (W2 h l / 2))
  | _ => none
def cmpS : Array Value → Option (Bool × Value)
  | ⟨[.agg ⟨[.int .i64 h1, .int .u64 l1]⟩, .agg ⟨[.int .i64 h2, .int .u64 l2]⟩]⟩ => some (okW h1 l1 && okW h2 l2, .int .i64 (cmpI (W2 h1 l1) (W2 h2 l2)))
  | _ => none
def mulS : Array Value → Option (Bool × Value)
  | ⟨[.int .i64 a, .int .i64 b]⟩ => some (okI a && okI b, wv (a * b))
  | _ => none
def scaleS : Array Value → Option (Bool × Value)
  | ⟨[.agg ⟨[.int .i64 h, .int .u64 l]⟩, .int .u32 k]⟩ => some (okW h l && (decide (0 ≤ k) && decide (k ≤ 4294967295)), wv (clamp (W2 h l * k)))
  | _ => none
def clipS : Array Value → Option (Bool × Value)
  | ⟨[.agg ⟨[.int .i64 h, .int .u64 l]⟩]⟩ => some (okW h l, .int .i64 (clip (W2 h l)))
  | _ => none
def divS : Array Value → Option (Bool × Value)
  | ⟨[.agg ⟨[.int .i64 h, .int .u64 l]⟩, .int .u64 y]⟩ => some (okW h l && (decide (0 < y) && decide (y ≤ 18446744073709551615)), .tuple #[wv (W2 h l / y), .int .u64 (W2 h l % y), .bool true])
  | _ => none
theorem by_W2 {h l : Int} (k : okW h l = true) {p : Value → Value → Prop} (q : p (.agg #[.int .i64 (hi (W2 h l)), .int .u64 (lo (W2 h l))]) (wv (W2 h l))) : p (.agg #[.int .i64 h, .int .u64 l]) (wv (W2 h l)) := by
  rwa [(hi_W2 k).1, (hi_W2 k).2.1] at q
def pcOf : PC Tryd.prog where
  f := 34
  spec := ofS
  body := by kernel_rfl
  ok := fun args r hr hok => by
    unfold ofS at hr
    split at hr
    · cases hr
      rw [okI_iff] at hok
      exact ⟨all_bel rfl, rfl, fun w => of_any _ hok.1 hok.2 w⟩
    · cases hr
def pcAdd : PC Tryd.prog where
  f := 39
  spec := addS
  body := by kernel_rfl
  ok := fun args r hr hok => by
    unfold addS at hr
    split at hr
    · cases hr
      rw [Bool.and_eq_true, okW_iff, okW_iff] at hok
      obtain ⟨⟨⟨a, b⟩, c, d⟩, ⟨e, f⟩, g, h⟩ := hok
      exact ⟨all_bel rfl, rfl, fun w => add_any _ _ _ _ c d g h a b e f w⟩
    · cases hr
def pcSub : PC Tryd.prog where
  f := 90
  spec := subS
  body := by kernel_rfl
  ok := fun args r hr hok => by
    unfold subS at hr
    split at hr
    · cases hr
      rw [Bool.and_eq_true, okW_iff, okW_iff] at hok
      obtain ⟨⟨⟨a, b⟩, c, d⟩, ⟨e, f⟩, g, h⟩ := hok
      exact ⟨all_bel rfl, rfl, fun w => sub_any _ _ _ _ c d g h a b e f w⟩
    · cases hr
def pcNeg : PC Tryd.prog where
  f := 75
  spec := negS
  body := by kernel_rfl
  ok := fun args r hr hok => by
    unfold negS at hr
    split at hr
    · cases hr
      rw [okW_iff] at hok
      exact ⟨all_bel rfl, rfl, fun w => neg_any _ _ hok.2.1 hok.2.2 hok.1.1 hok.1.2 w⟩
    · cases hr
def pcCmp : PC Tryd.prog where
  f := 26
  spec := cmpS
  body := by kernel_rfl
  ok := fun args r hr hok => by
    unfold cmpS at hr
    split at hr
    · rename_i h1 l1 h2 l2
      cases hr
      rw [Bool.and_eq_true] at hok
      refine ⟨all_bel rfl, rfl, fun w => ?_⟩
      have := cmp_n (W2 h1 l1) (W2 h2 l2) w
      rw [(hi_W2 hok.1).1, (hi_W2 hok.1).2.1, (hi_W2 hok.2).1, (hi_W2 hok.2).2.1] at this
      exact this
    · cases hr
def pcScale : PC Tryd.prog where
  f := 43
  spec := scaleS
  body := by kernel_rfl
  ok := fun args r hr hok => by
    unfold scaleS at hr
    split at hr
    · cases hr
      rw [Bool.and_eq_true, Bool.and_eq_true, decide_eq_true_eq, decide_eq_true_eq] at hok
      refine ⟨all_bel rfl, rfl, fun w => ?_⟩
      have := scale_any (hi_W2 hok.1).2.2 hok.2.1 hok.2.2 w
      rw [(hi_W2 hok.1).1, (hi_W2 hok.1).2.1] at this
      exact this
    · cases hr
def pcClip : PC Tryd.prog where
  f := 33
  spec := clipS
  body := by kernel_rfl
  ok := fun args r hr hok => by
    unfold clipS at hr
    split at hr
    · cases hr
      refine ⟨all_bel rfl, rfl, fun w => ?_⟩
      have := clip_n (hi_W2 hok).2.2 w
      rw [(hi_W2 hok).1, (hi_W2 hok).2.1] at this
      exact this
    · cases hr
def pcDiv : PC Tryd.prog where
  f := 38
  spec := divS
  body := by kernel_rfl
  ok := fun args r hr hok => by
    unfold divS at hr
    split at hr
    · cases hr
      rw [Bool.and_eq_true, Bool.and_eq_true, decide_eq_true_eq, decide_eq_true_eq] at hok
      refine ⟨all_bel rfl, rfl, fun w => ?_⟩
      have := wdiv_n (hi_W2 hok.1).2.2 hok.2.1 hok.2.2 w
      rw [(hi_W2 hok.1).1, (hi_W2 hok.1).2.1] at this
      exact this
    · cases hr
/-- A function of no arguments that was read. -/
def knownS : Array Value → Option (Bool × Value)
  | ⟨[]⟩ => some (true, .bool true)
  | _ => none
def pcKnown (f : FuncId) (body : (Tryd.prog.funcs[f]?.bind (·.body)).isSome = true) (hr : (((ev envT 1000).call [] f #[] [] B0).run.map (·.v)) = some (.bool true)) : PC Tryd.prog where
  f := f
  spec := knownS
  body := body
  ok := fun args r h _ => by
    unfold knownS at h
    split at h
    · cases h
      exact ⟨all_bel rfl, rfl, fun w => calls_read envT hcokP 1000 hr (by simp) rfl w⟩
    · cases h
def pcsW : List (PC Tryd.prog) := [pcAdd, pcSub, pcOf, pcClip, pcDiv, pcCmp, pcNeg, pcScale]
end

end Go.Proofs.YtfjfmcnnakfjnaaDoor


/-
  The statements' own 'known' of layer 2, and what is read by.
-/

namespace Go.Proofs.YtfjfmcnnakfjnaaDoor

open Go.Den Go.RowKit
noncomputable section
end

end Go.Proofs.YtfjfmcnnakfjnaaDoor


/-
  The document's numbers: Of, Num64, Neg, Zero, Size, read, and their contracts.
-/


namespace Go.Proofs.YtfjfmcnnakfjnaaDoor

open Go.Den Go.RowKit
noncomputable section
set_option maxRecDepth 100000

theorem rof_vc (n : Int) (Q : Value → Prop) (x1 : Int) (e_x1 : x1 = IntKind.wrap IntKind.u64 (0 - IntKind.wrap IntKind.u64 n)) (x2 : Int) (e_x2 : x2 = IntKind.wrap IntKind.u64 (Int.tdiv x1 65536)) (x3 : Int) (e_x3 : x3 = IntKind.wrap IntKind.u64 (Int.tdiv x2 65536)) (x4 : Int) (e_x4 : x4 = IntKind.wrap IntKind.u64 (Int.tdiv (IntKind.wrap IntKind.u64 n) 65536)) (x5 : Int) (e_x5 : x5 = IntKind.wrap IntKind.u64 (Int.tdiv x4 65536)) : ((ev envS 300).call [] 10 #[.int .i64 n] [] B0).holds (fun r => Q r.v) = (bcase (decide (n < 0))
  (bcase (decide (n < 0))
    (Q
      (Value.agg
        {
          toList :=
            [Value.bool true, Value.int IntKind.u64 (Int.tmod x1 65536), Value.int IntKind.u64 (Int.tmod x2 65536),
              Value.int IntKind.u64 (Int.tmod x3 65536),
              Value.int IntKind.u64 (Int.tmod (IntKind.wrap IntKind.u64 (Int.tdiv x3 65536)) 65536),
              Value.int IntKind.u64 0, Value.int IntKind.u64 0, Value.int IntKind.u64 0, Value.int IntKind.u64 0,
              Value.int IntKind.u64 0, Value.int IntKind.u64 0, Value.int IntKind.u64 0, Value.int IntKind.u64 0,
              Value.int IntKind.u64 0, Value.int IntKind.u64 0, Value.int IntKind.u64 0, Value.int IntKind.u64 0,
              Value.int IntKind.u64 0, Value.int IntKind.u64 0, Value.int IntKind.u64 0, Value.int IntKind.u64 0] }))
    (Q
      (Value.agg
        {
          toList :=
            [Value.bool true, Value.int IntKind.u64 (Int.tmod (IntKind.wrap IntKind.u64 n) 65536),
              Value.int IntKind.u64 (Int.tmod x4 65536), Value.int IntKind.u64 (Int.tmod x5 65536),
              Value.int IntKind.u64 (Int.tmod (IntKind.wrap IntKind.u64 (Int.tdiv x5 65536)) 65536),
              Value.int IntKind.u64 0, Value.int IntKind.u64 0, Value.int IntKind.u64 0, Value.int IntKind.u64 0,
              Value.int IntKind.u64 0, Value.int IntKind.u64 0, Value.int IntKind.u64 0, Value.int IntKind.u64 0,
              Value.int IntKind.u64 0, Value.int IntKind.u64 0, Value.int IntKind.u64 0, Value.int IntKind.u64 0,
              Value.int IntKind.u64 0, Value.int IntKind.u64 0, Value.int IntKind.u64 0, Value.int IntKind.u64 0] })))
  (bcase (decide (n < 0))
    (Q
      (Value.agg
        {
          toList :=
            [Value.bool false, Value.int IntKind.u64 (Int.tmod x1 65536), Value.int IntKind.u64 (Int.tmod x2 65536),
              Value.int IntKind.u64 (Int.tmod x3 65536),
              Value.int IntKind.u64 (Int.tmod (IntKind.wrap IntKind.u64 (Int.tdiv x3 65536)) 65536),
              Value.int IntKind.u64 0, Value.int IntKind.u64 0, Value.int IntKind.u64 0, Value.int IntKind.u64 0,
              Value.int IntKind.u64 0, Value.int IntKind.u64 0, Value.int IntKind.u64 0, Value.int IntKind.u64 0,
              Value.int IntKind.u64 0, Value.int IntKind.u64 0, Value.int IntKind.u64 0, Value.int IntKind.u64 0,
              Value.int IntKind.u64 0, Value.int IntKind.u64 0, Value.int IntKind.u64 0, Value.int IntKind.u64 0] }))
    (Q
      (Value.agg
        {
          toList :=
            [Value.bool false, Value.int IntKind.u64 (Int.tmod (IntKind.wrap IntKind.u64 n) 65536),
              Value.int IntKind.u64 (Int.tmod x4 65536), Value.int IntKind.u64 (Int.tmod x5 65536),
              Value.int IntKind.u64 (Int.tmod (IntKind.wrap IntKind.u64 (Int.tdiv x5 65536)) 65536),
              Value.int IntKind.u64 0, Value.int IntKind.u64 0, Value.int IntKind.u64 0, Value.int IntKind.u64 0,
              Value.int IntKind.u64 0, Value.int IntKind.u64 0, Value.int IntKind.u64 0, Value.int IntKind.u64 0,
              Value.int IntKind.u64 0, Value.int IntKind.u64 0, Value.int IntKind.u64 0, Value.int IntKind.u64 0,
              Value.int IntKind.u64 0, Value.int IntKind.u64 0, Value.int IntKind.u64 0, Value.int IntKind.u64 0] })))) := by
  subst e_x5 e_x4 e_x3 e_x2 e_x1
  kernel_rfl
theorem rnum64_vc (u : Int) (Q : Value → Prop) (x1 : Int) (e_x1 : x1 = IntKind.wrap IntKind.u64 (Int.tdiv u 65536)) (x2 : Int) (e_x2 : x2 = IntKind.wrap IntKind.u64 (Int.tdiv x1 65536)) : ((ev envS 300).call [] 12 #[.int .u64 u] [] B0).holds (fun r => Q r.v) = (Q
  (Value.agg
    {
      toList :=
        [Value.bool false, Value.int IntKind.u64 (Int.tmod u 65536), Value.int IntKind.u64 (Int.tmod x1 65536),
          Value.int IntKind.u64 (Int.tmod x2 65536),
          Value.int IntKind.u64 (Int.tmod (IntKind.wrap IntKind.u64 (Int.tdiv x2 65536)) 65536),
          Value.int IntKind.u64 0, Value.int IntKind.u64 0, Value.int IntKind.u64 0, Value.int IntKind.u64 0,
          Value.int IntKind.u64 0, Value.int IntKind.u64 0, Value.int IntKind.u64 0, Value.int IntKind.u64 0,
          Value.int IntKind.u64 0, Value.int IntKind.u64 0, Value.int IntKind.u64 0, Value.int IntKind.u64 0,
          Value.int IntKind.u64 0, Value.int IntKind.u64 0, Value.int IntKind.u64 0, Value.int IntKind.u64 0] })) := by
  subst e_x2 e_x1
  kernel_rfl
theorem size_read (sa sb : Bool) (a0 a1 a2 a3 a4 a5 a6 a7 a8 a9 a10 a11 a12 a13 a14 a15 a16 a17 a18 a19 : Int) (b0 b1 b2 b3 b4 b5 b6 b7 b8 b9 b10 b11 b12 b13 b14 b15 b16 b17 b18 b19 : Int) (Q : Value → Prop) : ((ev envS 300).call [] 37 #[.agg #[.bool sa, .int .u64 a0, .int .u64 a1, .int .u64 a2, .int .u64 a3, .int .u64 a4, .int .u64 a5, .int .u64 a6, .int .u64 a7, .int .u64 a8, .int .u64 a9, .int .u64 a10, .int .u64 a11, .int .u64 a12, .int .u64 a13, .int .u64 a14, .int .u64 a15, .int .u64 a16, .int .u64 a17, .int .u64 a18, .int .u64 a19], .agg #[.bool sb, .int .u64 b0, .int .u64 b1, .int .u64 b2, .int .u64 b3, .int .u64 b4, .int .u64 b5, .int .u64 b6, .int .u64 b7, .int .u64 b8, .int .u64 b9, .int .u64 b10, .int .u64 b11, .int .u64 b12, .int .u64 b13, .int .u64 b14, .int .u64 b15, .int .u64 b16, .int .u64 b17, .int .u64 b18, .int .u64 b19]] [] B0).holds (fun r => Q r.v) =
  sizeP [a19, a18, a17, a16, a15, a14, a13, a12, a11, a10, a9, a8, a7, a6, a5, a4, a3, a2, a1, a0] [b19, b18, b17, b16, b15, b14, b13, b12, b11, b10, b9, b8, b7, b6, b5, b4, b3, b2, b1, b0] (fun i => Q (.int .i64 i)) := by kernel_rfl
theorem zero_read (sa : Bool) (a0 a1 a2 a3 a4 a5 a6 a7 a8 a9 a10 a11 a12 a13 a14 a15 a16 a17 a18 a19 : Int) (Q : Value → Prop) : ((ev envS 300).call [] 31 #[.agg #[.bool sa, .int .u64 a0, .int .u64 a1, .int .u64 a2, .int .u64 a3, .int .u64 a4, .int .u64 a5, .int .u64 a6, .int .u64 a7, .int .u64 a8, .int .u64 a9, .int .u64 a10, .int .u64 a11, .int .u64 a12, .int .u64 a13, .int .u64 a14, .int .u64 a15, .int .u64 a16, .int .u64 a17, .int .u64 a18, .int .u64 a19]] [] B0).holds (fun r => Q r.v) =
  zeroP [a0, a1, a2, a3, a4, a5, a6, a7, a8, a9, a10, a11, a12, a13, a14, a15, a16, a17, a18, a19] (fun b => Q (.bool b)) := by kernel_rfl
theorem cons_of {l : List Int} {n : Nat} (h : l.length = n + 1) : ∃ x r, l = x :: r ∧ r.length = n := by
  cases l with
  | nil => simp at h
  | cons x r => exact ⟨x, r, rfl, by simpa using h⟩
theorem list20 {l : List Int} (h : l.length = 20) : ∃ x0 x1 x2 x3 x4 x5 x6 x7 x8 x9 x10 x11 x12 x13 x14 x15 x16 x17 x18 x19 : Int, l = [x0, x1, x2, x3, x4, x5, x6, x7, x8, x9, x10, x11, x12, x13, x14, x15, x16, x17, x18, x19] := by
  obtain ⟨x0, l0, e0, h0⟩ := cons_of h
  obtain ⟨x1, l1, e1, h1⟩ := cons_of h0
  obtain ⟨x2, l2, e2, h2⟩ := cons_of h1
  obtain ⟨x3, l3, e3, h3⟩ := cons_of h2
  obtain ⟨x4, l4, e4, h4⟩ := cons_of h3
  obtain ⟨x5, l5, e5, h5⟩ := cons_of h4
  obtain ⟨x6, l6, e6, h6⟩ := cons_of h5
  obtain ⟨x7, l7, e7, h7⟩ := cons_of h6
  obtain ⟨x8, l8, e8, h8⟩ := cons_of h7
  obtain ⟨x9, l9, e9, h9⟩ := cons_of h8
  obtain ⟨x10, l10, e10, h10⟩ := cons_of h9
  obtain ⟨x11, l11, e11, h11⟩ := cons_of h10
  obtain ⟨x12, l12, e12, h12⟩ := cons_of h11
  obtain ⟨x13, l13, e13, h13⟩ := cons_of h12
  obtain ⟨x14, l14, e14, h14⟩ := cons_of h13
  obtain ⟨x15, l15, e15, h15⟩ := cons_of h14
  obtain ⟨x16, l16, e16, h16⟩ := cons_of h15
  obtain ⟨x17, l17, e17, h17⟩ := cons_of h16
  obtain ⟨x18, l18, e18, h18⟩ := cons_of h17
  obtain ⟨x19, l19, e19, h19⟩ := cons_of h18
  have e20 : l19 = [] := List.length_eq_zero_iff.1 h19
  subst e20
  subst e19
  subst e18
  subst e17
  subst e16
  subst e15
  subst e14
  subst e13
  subst e12
  subst e11
  subst e10
  subst e9
  subst e8
  subst e7
  subst e6
  subst e5
  subst e4
  subst e3
  subst e2
  subst e1
  subst e0
  exact ⟨_, _, _, _, _, _, _, _, _, _, _, _, _, _, _, _, _, _, _, _, rfl⟩
theorem val_snoc : ∀ (l : List Int) (x : Int), val (l ++ [x]) = val l + B16 l.length * x
  | [], x => by rw [List.nil_append, val_one, val, List.length_nil, B16_0]; omega
  | y :: r, x => by
    rw [List.cons_append, val, val, val_snoc r x, List.length_cons, B16_s, Int.mul_add, Int.mul_assoc]; omega
/-- The rows, from the top: what they say of which is greater. -/
theorem sizeP_ok (Q : Int → Prop) : ∀ (xs ys : List Int), xs.length = ys.length → Pcs xs → Pcs ys → Q (cmpI (val xs.reverse) (val ys.reverse)) → sizeP xs ys Q
  | [], [], _, _, _, h => h
  | [], y :: ys, hl, _, _, _ => by simp at hl
  | x :: xs, [], hl, _, _, _ => by simp at hl
  | x :: xs, y :: ys, hl, px, py, h => by
    rw [List.reverse_cons, List.reverse_cons, val_snoc, val_snoc, List.length_reverse, List.length_reverse] at h
    simp only [List.length_cons] at hl
    have hl' : xs.length = ys.length := by omega
    have b1 := val_bd (l := xs.reverse) fun z hz => px.tail z (List.mem_reverse.1 hz)
    have b2 := val_bd (l := ys.reverse) fun z hz => py.tail z (List.mem_reverse.1 hz)
    rw [List.length_reverse] at b1 b2
    rw [← hl'] at h b2
    have bp := B16_pos xs.length
    show bcase (decide (x < y)) (Q (-1)) (bcase (decide (x > y)) (Q 1) (sizeP xs ys Q))
    refine bcase_in (fun q => ?_) fun q => bcase_in (fun q2 => ?_) fun q2 => ?_
    · rw [decide_eq_true_eq] at q
      have h1 : B16 xs.length * x + B16 xs.length * 1 ≤ B16 xs.length * y := by rw [← Int.mul_add]; exact Int.mul_le_mul_of_nonneg_left (by omega) (Int.le_of_lt bp)
      have e : cmpI (val xs.reverse + B16 xs.length * x) (val ys.reverse + B16 xs.length * y) = -1 := by
        unfold cmpI; split
        · omega
        · split <;> omega
      rwa [e] at h
    · rw [decide_eq_true_eq] at q2
      have h1 : B16 xs.length * y + B16 xs.length * 1 ≤ B16 xs.length * x := by rw [← Int.mul_add]; exact Int.mul_le_mul_of_nonneg_left (by omega) (Int.le_of_lt bp)
      have e : cmpI (val xs.reverse + B16 xs.length * x) (val ys.reverse + B16 xs.length * y) = 1 := by
        unfold cmpI; split
        · omega
        · split <;> omega
      rwa [e] at h
    · rw [decide_eq_false_iff_not] at q q2
      obtain rfl : x = y := by omega
      refine sizeP_ok Q xs ys hl' px.tail py.tail ?_
      have e : cmpI (val xs.reverse + B16 xs.length * x) (val ys.reverse + B16 xs.length * x) = cmpI (val xs.reverse) (val ys.reverse) := by
        unfold cmpI; (repeat' split) <;> omega
      rwa [e] at h
theorem zeroP_ok (Q : Bool → Prop) : ∀ (xs : List Int), Pcs xs → Q (val xs == 0) → zeroP xs Q
  | [], _, h => h
  | x :: xs, px, h => by
    have hx := px.head
    have b := val_bd px.tail
    show bcase (decide (x > 0)) (Q false) (zeroP xs Q)
    rw [val] at h
    refine bcase_in (fun q => ?_) fun q => zeroP_ok Q xs px.tail ?_
    · rw [decide_eq_true_eq] at q
      rwa [beq_eq_false_iff_ne.2 (show x + 65536 * val xs ≠ 0 by omega)] at h
    · rw [decide_eq_false_iff_not] at q
      have e : (x + 65536 * val xs == 0) = (val xs == 0) := by rw [Bool.eq_iff_iff, beq_iff_eq, beq_iff_eq]; omega
      rwa [e] at h
theorem belL_mapU (l : List Int) : belL B0 (mapU l) = true := by
  induction l with
  | nil => rfl
  | cons x r ih => exact ih
theorem bel_num (s : Bool) (l : List Int) : bel B0 (.agg ⟨.bool s :: mapU l⟩) = true := belL_mapU l
theorem bel_nv (s : Bool) (n : Int) : bel B0 (nv s n) = true := bel_num s _
/-- A row of 20 pieces, told one by one. -/
theorem num_out {r : List Value} (h : okNum r = true) : ∃ l, r = mapU l ∧ l.length = 20 ∧ Pcs l ∧ mag r = val l := by
  obtain ⟨l, rfl, hl, hp⟩ := okNum_out h
  exact ⟨l, rfl, hl, hp, mag_mapU l⟩
def rofS : Array Value → Option (Bool × Value)
  | ⟨[.int .i64 n]⟩ => some (okI n, nv (decide (n < 0)) (sz n))
  | _ => none
def rnumS : Array Value → Option (Bool × Value)
  | ⟨[.int .u64 n]⟩ => some (okU n, nv false n)
  | _ => none
def rnegS : Array Value → Option (Bool × Value)
  | ⟨[.agg ⟨.bool s :: r⟩]⟩ => some (okNum r, nv (!s) (mag r))
  | _ => none
def rzeroS : Array Value → Option (Bool × Value)
  | ⟨[.agg ⟨.bool _ :: r⟩]⟩ => some (okNum r, .bool (mag r == 0))
  | _ => none
def rsizeS : Array Value → Option (Bool × Value)
  | ⟨[.agg ⟨.bool _ :: r1⟩, .agg ⟨.bool _ :: r2⟩]⟩ => some (okNum r1 && okNum r2, .int .i64 (cmpI (mag r1) (mag r2)))
  | _ => none
theorem bcase_n {p q : Prop} : bcase false p q = q := rfl
def zs16 : List Int := [0, 0, 0, 0, 0, 0, 0, 0, 0, 0, 0, 0, 0, 0, 0, 0]
theorem four {s : Bool} {u d0 d1 d2 d3 : Int} (h0 : 0 ≤ u) (h1 : u ≤ 18446744073709551615) (e0 : d0 = u % 65536) (e1 : d1 = u / 65536 % 65536) (e2 : d2 = u / 65536 / 65536 % 65536) (e3 : d3 = u / 65536 / 65536 / 65536 % 65536) :
    Value.agg ⟨.bool s :: mapU (d0 :: d1 :: d2 :: d3 :: zs16)⟩ = nv s u := by
  refine nv_of rfl ?_ ?_
  · refine .cons (by omega) (.cons (by omega) (.cons (by omega) (.cons (by omega) ?_)))
    intro x hx
    simp only [zs16, List.mem_cons, List.not_mem_nil, or_false, or_self] at hx; omega
  · simp only [val, zs16]; omega
theorem wt {u : Int} (h0 : 0 ≤ u) (h1 : u ≤ 18446744073709551615) : IntKind.u64.wrap (Int.tdiv u 65536) = u / 65536 := by rw [td h0]; exact w64 (by omega) (by omega)
theorem four' {s : Bool} {u : Int} (h0 : 0 ≤ u) (h1 : u ≤ 18446744073709551615) :
    Value.agg ⟨.bool s :: mapU (Int.tmod u 65536 :: Int.tmod (IntKind.u64.wrap (Int.tdiv u 65536)) 65536 :: Int.tmod (IntKind.u64.wrap (Int.tdiv (IntKind.u64.wrap (Int.tdiv u 65536)) 65536)) 65536 ::
      Int.tmod (IntKind.u64.wrap (Int.tdiv (IntKind.u64.wrap (Int.tdiv (IntKind.u64.wrap (Int.tdiv u 65536)) 65536)) 65536)) 65536 :: zs16)⟩ = nv s u := by
  have w1 : IntKind.u64.wrap (Int.tdiv u 65536) = u / 65536 := wt (by omega) (by omega)
  have w2 : IntKind.u64.wrap (Int.tdiv (u / 65536) 65536) = u / 65536 / 65536 := wt (by omega) (by omega)
  have w3 : IntKind.u64.wrap (Int.tdiv (u / 65536 / 65536) 65536) = u / 65536 / 65536 / 65536 := wt (by omega) (by omega)
  rw [w1, w2, w3, tm h0, tm (show 0 ≤ u / 65536 by omega), tm (show 0 ≤ u / 65536 / 65536 by omega), tm (show 0 ≤ u / 65536 / 65536 / 65536 by omega)]
  exact four h0 h1 rfl rfl rfl rfl
def pcROf : PC Tryd.prog where
  f := 10
  spec := rofS
  body := by kernel_rfl
  ok := fun args r hr hok => by
    unfold rofS at hr
    split at hr
    · rename_i n
      cases hr
      have b := okI_iff.1 hok
      refine ⟨all_bel rfl, bel_nv _ _, fun w => calls_spec envS hcokP 300 ?_ (all_bel rfl) (bel_nv _ _) w⟩
      rw [rof_vc n (fun v => v = nv (decide (n < 0)) (sz n)) _ rfl _ rfl _ rfl _ rfl _ rfl]
      cases hd : decide (n < 0)
      · rw [decide_eq_false_iff_not] at hd
        have e1 : IntKind.u64.wrap n = n := w64 (by omega) (by omega)
        have e2 : sz n = n := by unfold sz; omega
        simp only [bcase_n, e1, e2]
        exact four' (by omega) (by omega)
      · rw [decide_eq_true_eq] at hd
        have e1 : IntKind.u64.wrap (0 - IntKind.u64.wrap n) = -n := by rw [IntKind.wrap_u64, IntKind.wrap_u64]; omega
        have e2 : sz n = -n := by unfold sz; omega
        simp only [bcase_t, e1, e2]
        exact four' (by omega) (by omega)
    · cases hr
def pcRNum : PC Tryd.prog where
  f := 12
  spec := rnumS
  body := by kernel_rfl
  ok := fun args r hr hok => by
    unfold rnumS at hr
    split at hr
    · rename_i n
      cases hr
      have b := okU_iff.1 hok
      refine ⟨all_bel rfl, bel_nv _ _, fun w => calls_spec envS hcokP 300 ?_ (all_bel rfl) (bel_nv _ _) w⟩
      rw [rnum64_vc n (fun v => v = nv false n) _ rfl _ rfl]
      exact four' (by omega) (by omega)
    · cases hr
def pcRZero : PC Tryd.prog where
  f := 31
  spec := rzeroS
  body := by kernel_rfl
  ok := fun args r hr hok => by
    unfold rzeroS at hr
    split at hr
    · rename_i s r
      cases hr
      obtain ⟨l, rfl, hl, hp, hm⟩ := num_out hok
      have hb : (#[Value.agg ⟨.bool s :: mapU l⟩] : Array Value).all (bel B0) = true := all_bel (by rw [belL, bel_num]; rfl)
      refine ⟨hb, rfl, fun w => calls_spec envS hcokP 300 ?_ hb rfl w⟩
      rw [hm]
      obtain ⟨a0, a1, a2, a3, a4, a5, a6, a7, a8, a9, a10, a11, a12, a13, a14, a15, a16, a17, a18, a19, rfl⟩ := list20 hl
      exact (zero_read s a0 a1 a2 a3 a4 a5 a6 a7 a8 a9 a10 a11 a12 a13 a14 a15 a16 a17 a18 a19 (fun v => v = .bool (val [a0, a1, a2, a3, a4, a5, a6, a7, a8, a9, a10, a11, a12, a13, a14, a15, a16, a17, a18, a19] == 0))).mpr (zeroP_ok _ _ hp rfl)
    · cases hr
def pcRSize : PC Tryd.prog where
  f := 37
  spec := rsizeS
  body := by kernel_rfl
  ok := fun args r hr hok => by
    unfold rsizeS at hr
    split at hr
    · rename_i s1 r1 s2 r2
      cases hr
      have hok' : okNum r1 = true ∧ okNum r2 = true := by simpa using hok
      obtain ⟨l1, rfl, hl1, hp1, hm1⟩ := num_out hok'.1
      obtain ⟨l2, rfl, hl2, hp2, hm2⟩ := num_out hok'.2
      have hb : (#[Value.agg ⟨.bool s1 :: mapU l1⟩, Value.agg ⟨.bool s2 :: mapU l2⟩] : Array Value).all (bel B0) = true := all_bel (by rw [belL, bel_num, belL, bel_num]; rfl)
      refine ⟨hb, rfl, fun w => calls_spec envS hcokP 300 ?_ hb rfl w⟩
      rw [hm1, hm2]
      have key := sizeP_ok (fun i => Value.int .i64 i = .int .i64 (cmpI (val l1) (val l2))) l1.reverse l2.reverse (by rw [List.length_reverse, List.length_reverse, hl1, hl2]) (fun z hz => hp1 z (List.mem_reverse.1 hz)) (fun z hz => hp2 z (List.mem_reverse.1 hz)) (by rw [List.reverse_reverse, List.reverse_reverse])
      obtain ⟨a0, a1, a2, a3, a4, a5, a6, a7, a8, a9, a10, a11, a12, a13, a14, a15, a16, a17, a18, a19, rfl⟩ := list20 hl1
      obtain ⟨b0, b1, b2, b3, b4, b5, b6, b7, b8, b9, b10, b11, b12, b13, b14, b15, b16, b17, b18, b19, rfl⟩ := list20 hl2
      exact (size_read s1 s2 a0 a1 a2 a3 a4 a5 a6 a7 a8 a9 a10 a11 a12 a13 a14 a15 a16 a17 a18 a19 b0 b1 b2 b3 b4 b5 b6 b7 b8 b9 b10 b11 b12 b13 b14 b15 b16 b17 b18 b19 (fun v => v = .int .i64 (cmpI (val [a0, a1, a2, a3, a4, a5, a6, a7, a8, a9, a10, a11, a12, a13, a14, a15, a16, a17, a18, a19]) (val [b0, b1, b2, b3, b4, b5, b6, b7, b8, b9, b10, b11, b12, b13, b14, b15, b16, b17, b18, b19])))).mpr key
    · cases hr
def envR1 : Env Tryd.prog := envS.with false [pcROf, pcRNum, pcRZero, pcRSize]
end

end Go.Proofs.YtfjfmcnnakfjnaaDoor


/-
  The document's product: its code in pieces, and what stands at the head of its loop.
-/

namespace Go.Proofs.YtfjfmcnnakfjnaaDoor

open Go.Den Go.RowKit
noncomputable section
set_option maxRecDepth 100000

noncomputable def codeOf (f : Nat) : Code := ((Tryd.prog.funcs[f]?).bind (·.body)).getD .skip
noncomputable def getZ (zs : List Value) : Nat → Value := List.rec (motive := fun _ => Nat → Value) (fun _ => undef) (fun z _ ih k => Nat.casesOn (motive := fun _ => Value) k z fun m => ih m) zs
noncomputable def mulC : Code := codeOf 36
noncomputable def mulL : Code := cL (cR (cL (cR (cR mulC))))
noncomputable def mulB : Code := cL mulL
noncomputable def zeroN : Value := .agg ⟨.bool false :: mapU [0, 0, 0, 0, 0, 0, 0, 0, 0, 0, 0, 0, 0, 0, 0, 0, 0, 0, 0, 0]⟩
noncomputable def blkN (s : Bool) (l : List Int) : ABlk := ⟨⟨.bool s :: mapU l⟩, 28, none⟩
noncomputable def mulT (i : Int) (zs : List Value) (sa sb so : Bool) (a b o : List Int) : St :=
  ⟨FT.ins [getZ zs 0, getZ zs 1, ptr B0, ptr (B0 + 1), ptr (B0 + 2), ptr (B0 + 3), .int .i64 i, getZ zs 7, getZ zs 8, getZ zs 9, getZ zs 10, getZ zs 11, getZ zs 12, getZ zs 13, getZ zs 14, getZ zs 15, getZ zs 16, getZ zs 17, getZ zs 18, getZ zs 19, getZ zs 20, getZ zs 21, getZ zs 22, getZ zs 23, getZ zs 24, getZ zs 25, getZ zs 26, getZ zs 27, getZ zs 28, getZ zs 29, getZ zs 30, getZ zs 31, getZ zs 32, getZ zs 33, getZ zs 34, getZ zs 35, getZ zs 36, getZ zs 37, getZ zs 38, getZ zs 39, getZ zs 40, getZ zs 41, getZ zs 42, getZ zs 43, getZ zs 44, getZ zs 45, getZ zs 46, getZ zs 47, getZ zs 48, getZ zs 49, getZ zs 50, getZ zs 51, getZ zs 52, getZ zs 53, getZ zs 54, getZ zs 55, getZ zs 56, getZ zs 57, getZ zs 58, getZ zs 59, getZ zs 60, getZ zs 61, getZ zs 62, getZ zs 63, getZ zs 64, getZ zs 65, getZ zs 66, getZ zs 67, getZ zs 68, getZ zs 69, getZ zs 70, getZ zs 71, getZ zs 72, getZ zs 73] 0 ⟨74, .nil⟩,
    [(B0, blkN sa a), (B0 + 1, blkN sb b), (B0 + 2, blkN false [0, 0, 0, 0, 0, 0, 0, 0, 0, 0, 0, 0, 0, 0, 0, 0, 0, 0, 0, 0]), (B0 + 3, blkN so o)], B0 + 4⟩
end

end Go.Proofs.YtfjfmcnnakfjnaaDoor
