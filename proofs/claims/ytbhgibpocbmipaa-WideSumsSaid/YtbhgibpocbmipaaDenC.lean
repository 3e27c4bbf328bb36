/-
  The operations, read deterministically over heaps that are known in part.
-/
import Derived.Test.YtbhgibpocbmipaaDenB
import Derived.Laws.StructEq
import Derived.Laws.Entries
namespace Go.Den
open Go.RowKit
noncomputable section

def opndOk : Operand → Bool
  | .const v => belF B0 v
  | .global g => Nat.blt g B0
  | _ => true
def sizeO (P : Program) (t : TypeId) : Option Nat := (P.info? t).map (·.size)

structure ARes where
  ok : Bool
  v : Value
  h : AHeap
  nx : Nat

/-- Where a block is told: among those that may be written, or among those that are only read. -/
def look (g h : AHeap) (b : Nat) : Option ABlk := (h.get b).or (g.get b)

def partA (P : Program) (t : TypeId) (cs : Array Value) (off : Nat) : Option Value :=
  match P.underlying t, sizeO P t with
  | some d, some n => bif d.isRow then some (.agg (fext cs off (off + n))) else fget cs off
  | _, _ => none
def aload (P : Program) (g h : AHeap) (t : TypeId) (a : Addr) : Option Value :=
  match a.spot, look g h a.block, P.underlying t, sizeO P t with
  | none, some B, some d, some n =>
    bif d.isRow then (bif Nat.ble (a.off + n) B.cells.size then some (.agg (fext B.cells a.off (a.off + n))) else none) else fget B.cells a.off
  | _, _, _, _ => none
def astore (P : Program) (h : AHeap) (t : TypeId) (a : Addr) (v : Value) : Option AHeap :=
  match a.spot, h.get a.block, sizeO P t with
  | none, some B, some n =>
    bif Nat.beq v.cells.size n && Nat.ble (a.off + n) B.cells.size && fall (·.oneCell') v.cells then some (h.set a.block { B with cells := ⟨wrF B.cells.toList a.off v.cells.toList⟩ }) else none
  | _, _, _ => none

/-- Equality of values without addresses. -/
def eqFieldsA (P : Program) (eq : TypeId → Value → Value → Option Bool) (xs ys : Array Value) : List Field → Option Bool
  | [] => some true
  | f :: fs =>
    if f.name ≠ "_" then
      match partA P f.type xs f.offset, partA P f.type ys f.offset with
      | some a, some b =>
        match eq f.type a b, eqFieldsA P eq xs ys fs with
        | some r, some s => some (r && s)
        | _, _ => none
      | _, _ => none
    else eqFieldsA P eq xs ys fs
def eqA (P : Program) (so : TypeId → Bool) : Nat → TypeId → Value → Value → Option Bool
  | 0, _, _, _ => none
  | d + 1, t, x, y =>
    match P.underlying t, x, y with
    | some .bool, .bool a, .bool b => some (a == b)
    | some (.int _), .int k a, .int k' b => if k = k' then some (a == b) else none
    | some .string, .string a, .string b => some (a.toList == b.toList)
    | some (.pointer _), .pointer none, .pointer b => some b.isNone
    | some (.pointer _), .pointer (some _), .pointer none => some false
    | some (.struct fields), .agg xs, .agg ys => bif so t then eqFieldsA P (eqA P so d) xs ys fields.toList else none
    | some (.slice _), .slice none _ _, .slice b _ _ => some b.isNone
    | some (.slice _), .slice (some _) _ _, .slice none _ _ => some false
    | some (.func _ _ _), .nilFunc, .nilFunc => some true
    | some (.func _ _ _), .nilFunc, .func _ _ _ => some false
    | some (.func _ _ _), .func _ _ _, .nilFunc => some false
    | some (.interface _), .nilIface, .iface _ _ => some false
    | some (.interface _), .iface _ _, .nilIface => some false
    | some (.map _ _), .map none, .map b => some b.isNone
    | some (.map _ _), .map (some _), .map none => some false
    | _, _, _ => none

def binA (P : Program) (so : TypeId → Bool) (op : BinOp) (t : TypeId) (x y : Value) : Option (Bool × Value) :=
  match x, y with
  | .int k a, .int k' b =>
    match op with
    | .shl => some (decide (0 ≤ b), .int k (k.wrap (a * 2 ^ (min b.toNat k.bits))))
    | .shr => some (decide (0 ≤ b), .int k (a.fdiv (2 ^ (min b.toNat k.bits))))
    | _ => if k = k' then
      match op with
      | .add => some (true, .int k (k.wrap (a + b)))
      | .sub => some (true, .int k (k.wrap (a - b)))
      | .mul => some (true, .int k (k.wrap (a * b)))
      | .quo => some (!(b == 0), .int k (k.wrap (a.tdiv b)))
      | .rem => some (!(b == 0), .int k (a.tmod b))
      | .and => some (true, .int k (k.wrap (BitVec.ofInt k.bits a &&& BitVec.ofInt k.bits b).toNat))
      | .or => some (true, .int k (k.wrap (BitVec.ofInt k.bits a ||| BitVec.ofInt k.bits b).toNat))
      | .xor => some (true, .int k (k.wrap (BitVec.ofInt k.bits a ^^^ BitVec.ofInt k.bits b).toNat))
      | .andNot => some (true, .int k (k.wrap (BitVec.ofInt k.bits a &&& ~~~BitVec.ofInt k.bits b).toNat))
      | .eql => some (true, .bool (a == b))
      | .neq => some (true, .bool (a != b))
      | .lss => some (true, .bool (decide (a < b)))
      | .leq => some (true, .bool (decide (a ≤ b)))
      | .gtr => some (true, .bool (decide (a > b)))
      | .geq => some (true, .bool (decide (a ≥ b)))
      | _ => none
      else none
  | .string a, .string b =>
    match op with
    | .add => some (decide (((a.size + b.size : Nat) : Int) ≤ IntKind.i64.max), .string (a ++ b))
    | .eql => some (true, .bool (a.toList == b.toList))
    | .neq => some (true, .bool (!(a.toList == b.toList)))
    | .lss => some (true, .bool (Op.bytesLess a.toList b.toList))
    | .leq => some (true, .bool (Op.bytesLess a.toList b.toList || a.toList == b.toList))
    | .gtr => some (true, .bool (!(Op.bytesLess a.toList b.toList || a.toList == b.toList)))
    | .geq => some (true, .bool (!(Op.bytesLess a.toList b.toList)))
    | _ => none
  | .nilIface, .nilIface => none
  | x, y =>
    match op with
    | .eql => (eqA P so 20 t x y).map fun b => (true, .bool b)
    | .neq => (eqA P so 20 t x y).map fun b => (true, .bool (!b))
    | _ => none

section
variable {P : Program} {so : TypeId → Bool}
theorem partA_ren {ρ : Nat → Nat} {t : TypeId} {cs : Array Value} {off : Nat} {v : Value} (h : partA P t cs off = some v) : partA P t (cs.map (ren ρ)) off = some (ren ρ v) := by
  unfold partA at *
  simp only [fext_eq, fget_eq] at *
  split at h
  · rename_i d n _ _
    cases hd : d.isRow <;> simp only [hd, cond_true, cond_false] at h ⊢
    · simp [h]
    · cases h; rw [ren_agg, Array.map_extract]
  · cases h
theorem partA_bel {n : Nat} {t : TypeId} {cs : Array Value} {off : Nat} {v : Value} (h : partA P t cs off = some v) (hb : ∀ x ∈ cs, bel n x = true) : bel n v = true := by
  unfold partA at h
  simp only [fext_eq, fget_eq] at h
  split at h
  · rename_i d n _ _
    cases hd : d.isRow <;> simp only [hd, cond_true, cond_false] at h
    · exact hb v (Array.mem_of_getElem? h)
    · cases h; rw [bel_agg]; intro x hx
      obtain ⟨i, hi, rfl⟩ := Array.mem_iff_getElem.1 hx
      rw [Array.getElem_extract]; exact hb _ (Array.getElem_mem _)
  · cases h
theorem run_partA {t : TypeId} {cs : Array Value} {off : Nat} {v : Value} (h : partA P t cs off = some v) (w : World) : (part t cs off).run P w = .ok v w := by
  unfold partA at h
  simp only [fext_eq, fget_eq] at h
  split at h
  · rename_i d n hd hn
    have hs : (sizeOf t).run P w = .ok n w := by
      unfold sizeO at hn
      cases hq : P.info? t with
      | none => simp [hq] at hn
      | some i => simp only [hq, Option.map_some, Option.some.injEq] at hn; simp [sizeOf, typeInfo, hq, hn]
    have ha : (isAgg t).run P w = .ok d.isRow w := by
      unfold isAgg; rw [Sem.run_bind, run_underlying hd w]; cases d <;> rfl
    unfold part
    rw [Sem.run_bind, ha]
    cases hr : d.isRow <;> simp only [hr, cond_true, cond_false] at h ⊢
    · simp [h]
    · cases h; simp [hs]
  · cases h
theorem eqFieldsA_ren {ρ : Nat → Nat} {eq : TypeId → Value → Value → Option Bool} (he : ∀ t x y b, eq t x y = some b → eq t (ren ρ x) (ren ρ y) = some b) (xs ys : Array Value) :
    ∀ fs b, eqFieldsA P eq xs ys fs = some b → eqFieldsA P eq (xs.map (ren ρ)) (ys.map (ren ρ)) fs = some b
  | [], b, h => h
  | f :: fs, b, h => by
    unfold eqFieldsA at h ⊢
    split at h
    · rename_i hn
      rw [if_pos hn]
      split at h
      · rename_i a c h1 h2
        split at h
        · rename_i r s h3 h4
          simp only [partA_ren h1, partA_ren h2, he _ _ _ _ h3, eqFieldsA_ren he xs ys fs _ h4]; exact h
        · cases h
      · cases h
    · rename_i hn
      rw [if_neg hn]; exact eqFieldsA_ren he xs ys fs b h
theorem eqA_ren {ρ : Nat → Nat} : ∀ (d : Nat) (t : TypeId) (x y : Value) (b : Bool), eqA P so d t x y = some b → eqA P so d t (ren ρ x) (ren ρ y) = some b
  | 0, _, _, _, _, h => by cases h
  | d + 1, t, x, y, b, h => by
    unfold eqA at h ⊢
    split at h
    case h_6 =>
      rename_i fields xs ys hu
      rw [ren_agg, ren_agg, hu]
      cases hs : so t <;> simp only [hs, cond_true, cond_false] at h ⊢
      · cases h
      · exact eqFieldsA_ren (fun t x y b hb => eqA_ren d t x y b hb) xs ys _ b h
    all_goals first
      | (cases h; done)
      | (rename_i hu; simp only [ren, hu]; exact h)
      | (rename_i z hu; cases z <;> simp only [ren, hu] <;> exact h)
      | (rename_i z _ hu; cases z <;> simp only [ren, hu] <;> exact h)
      | (rename_i z _ _ hu; cases z <;> simp only [ren, hu] <;> exact h)
      | (simp only [ren_func, ren]; simp_all)
theorem run_eqFieldsA {d : Nat} {eq : TypeId → Value → Value → Option Bool} (he : ∀ t x y b, eq t x y = some b → ∀ w, (Op.equalIn d t x y).run P w = .ok b w) (xs ys : Array Value) (w : World) :
    ∀ fs b, eqFieldsA P eq xs ys fs = some b → (Op.eqFields d xs ys fs).run P w = .ok b w
  | [], b, h => by cases h; rfl
  | f :: fs, b, h => by
    unfold eqFieldsA at h
    unfold Op.eqFields
    split at h
    · rename_i hn
      rw [if_pos hn]
      split at h
      · rename_i a c h1 h2
        split at h
        · rename_i r s h3 h4
          have ih := run_eqFieldsA he xs ys w fs _ h4
          cases h
          simp only [Sem.run_bind, run_partA h1, run_partA h2, he _ _ _ _ h3, Result.andThen_ok]
          cases r
          · simp
          · simp [ih]
        · cases h
      · cases h
    · rename_i hn
      rw [if_neg hn]; exact run_eqFieldsA he xs ys w fs b h
theorem run_eqA (hso : ∀ t, so t = true → P.stoodInHeld t = false ∧ P.eqGuardType P.depth t = false) : ∀ (d m : Nat) (_ : d ≤ m) (t : TypeId) (x y : Value) (b : Bool), eqA P so d t x y = some b → ∀ w, (Op.equalIn m t x y).run P w = .ok b w
  | 0, _, _, _, _, _, _, h, _ => by cases h
  | d + 1, 0, hm, _, _, _, _, _, _ => by omega
  | d + 1, m + 1, hm, t, x, y, b, h, w => by
    unfold eqA at h
    split at h
    case h_6 =>
      rename_i fields xs ys hu
      cases hs : so t <;> simp only [hs, cond_true, cond_false] at h
      · cases h
      · have hf : P.fieldsOf t = fields := by simp [Program.fieldsOf, hu]
        rw [run_equalIn_struct w m t xs ys (by rw [hf]; exact hu) (hso t hs).1, hf]
        exact run_eqFieldsA (fun t x y b hb w => run_eqA hso d m (by omega) t x y b hb w) xs ys w _ b h
    case h_2 =>
      rename_i k k1 a k2 c hu
      split at h
      · rename_i hk; cases h; simp [Op.equalIn, run_underlying hu, hk]
      · cases h
    case h_3 =>
      rename_i a c hu
      cases h; exact run_equalIn_string w m t a c hu
    all_goals first
      | (cases h; done)
      | (rename_i hu; cases h; simp [Op.equalIn, run_underlying hu]; done)
      | (rename_i z hu; cases h; cases z <;> simp [Op.equalIn, run_underlying hu]; done)
      | (rename_i z _ hu; cases h; cases z <;> simp [Op.equalIn, run_underlying hu]; done)
      | (rename_i z _ _ hu; cases h; cases z <;> simp [Op.equalIn, run_underlying hu]; done)
end
end
end Go.Den
