/-
  The operations, one by one: what they come to, and that they do so in every world.
-/
import Derived.Test.YtbhgibpocbmipaaDenC
namespace Go.Den
open Go.RowKit
noncomputable section

def ptr (b : Nat) : Value := .pointer (some ⟨b, 0, none⟩)
def pickV (t : Bool) (x y : Value) : Value :=
  match x, y with
  | .bool p, .bool q => .bool (bif t then p else q)
  | x, y => match t with | true => x | false => y
def zeroLow (P : Program) (t : TypeId) : Bool :=
  match (P.info? t).bind (·.zero) with
  | some z => bel B0 z
  | none => false
def placesA (P : Program) : List Field → Option (List (Nat × Nat))
  | [] => some []
  | f :: fs =>
    match sizeO P f.type, placesA P fs with
    | some n, some r => some ((f.offset, n) :: r)
    | _, _ => none
def fillF (place : Nat → Option (Nat × Nat)) (cs : List Value) : List (Nat × Value) → Option (List Value)
  | [] => some cs
  | (i, v) :: rest =>
    match place i with
    | none => none
    | some (off, size) => bif Nat.beq v.cells.size size && Nat.ble (off + size) cs.length then fillF place (wrL cs off v.cells.toList) rest else none
def buildA (P : Program) (t : TypeId) (parts : List (Nat × Value)) : Option Value :=
  bif zeroLow P t then
    match (P.info? t).bind (·.zero), P.underlying t with
    | some z, some (.struct fields) =>
      match placesA P fields.toList with
      | some pl => (fillF (fun i => pl[i]?) z.cells.toList parts).map fun l => .agg ⟨l⟩
      | none => none
    | some z, some (.array _ elem) =>
      match sizeO P elem with
      | some n => (fillF (fun i => some (i * n, n)) z.cells.toList parts).map fun l => .agg ⟨l⟩
      | none => none
    | _, _ => none
  else none

def retA (v : Value) (h : AHeap) (nx : Nat) : Option ARes := some ⟨true, v, h, nx⟩
def retO (v : Option Value) (h : AHeap) (nx : Nat) : Option ARes := v.map fun v => ⟨true, v, h, nx⟩
def pickA (c a b : Value) (h : AHeap) (nx : Nat) : Option ARes :=
  match c with
  | .bool t => some ⟨true, pickV t a b, h, nx⟩
  | _ => none
def allocA (P : Program) (T : TypeId) (h : AHeap) (nx : Nat) : Option ARes :=
  match (P.info? T).bind (·.zero) with
  | some z => bif bel B0 z then some ⟨true, ptr nx, h.set nx ⟨z.cells, T, none⟩, nx + 1⟩ else none
  | none => none
def loadA (P : Program) (g : AHeap) (t : TypeId) (x : Value) (h : AHeap) (nx : Nat) : Option ARes :=
  match x with
  | .pointer (some a) => (aload P g h t a).map fun v => ⟨true, v, h, nx⟩
  | _ => none
def storeA (P : Program) (t : TypeId) (x y : Value) (h : AHeap) (nx : Nat) : Option ARes :=
  match x with
  | .pointer (some a) => (astore P h t a y).map fun h' => ⟨true, undef, h', nx⟩
  | _ => none
def nilA (x : Value) (h : AHeap) (nx : Nat) : Option ARes :=
  match x with
  | .pointer (some a) => some ⟨true, .pointer (some a), h, nx⟩
  | .func (.func f) a b => some ⟨true, .func (.func f) a b, h, nx⟩
  | .iface t v => some ⟨true, .iface t v, h, nx⟩
  | _ => none
def unA (op : UnOp) (x : Value) (h : AHeap) (nx : Nat) : Option ARes :=
  match op, x with
  | .neg, .int k n => some ⟨true, .int k (k.wrap (0 - n)), h, nx⟩
  | .xor, .int k n => some ⟨true, .int k (k.wrap (BitVec.ofInt k.bits (if k.signed then -1 else k.max) ^^^ BitVec.ofInt k.bits n).toNat), h, nx⟩
  | .not, .bool b => some ⟨true, .bool (!b), h, nx⟩
  | _, _ => none
def convA (P : Program) (src dst : TypeId) (x : Value) (h : AHeap) (nx : Nat) : Option ARes :=
  match P.underlying src, P.underlying dst, x with
  | some _, some (.int k), .int _ n => some ⟨true, .int k (k.wrap n), h, nx⟩
  | some _, some .string, .string s => some ⟨true, .string s, h, nx⟩
  | _, _, _ => none
def ifaceA (P : Program) (t : TypeId) (x : Value) (h : AHeap) (nx : Nat) : Option ARes :=
  match P.underlying t with
  | some (.interface _) => none
  | some _ => some ⟨true, .iface t x, h, nx⟩
  | none => none
def fieldAddrA (P : Program) (s : TypeId) (x : Value) (f : Nat) (h : AHeap) (nx : Nat) : Option ARes :=
  match P.underlying s, x with
  | some (.struct fields), .pointer (some a) => match fields.toList[f]? with
    | some F => match sizeO P F.type with
      | some (_ + 1) => some ⟨true, .pointer (some (a.add F.offset)), h, nx⟩
      | _ => none
    | none => none
  | _, _ => none
def fieldA (P : Program) (t : TypeId) (x : Value) (f : Nat) (h : AHeap) (nx : Nat) : Option ARes :=
  match P.underlying t, x with
  | some (.struct fields), .agg cs => match fields.toList[f]? with
    | some F => (partA P F.type cs F.offset).map fun v => ⟨true, v, h, nx⟩
    | none => none
  | _, _ => none
def indexAddrA (P : Program) (t : TypeId) (x ix : Value) (h : AHeap) (nx : Nat) : Option ARes :=
  match P.underlying t, x, ix with
  | some (.array len elem), .pointer (some a), .int _ i => match sizeO P elem with
    | some n => some ⟨decide (0 ≤ i) && decide (i < len), .pointer (some (a.add (i.toNat * n))), h, nx⟩
    | none => none
  | some (.slice elem), .slice (some a) len _, .int _ i => match sizeO P elem with
    | some n => some ⟨decide (0 ≤ i) && decide (i < len), .pointer (some (a.add (i.toNat * n))), h, nx⟩
    | none => none
  | _, _, _ => none
def indexA (P : Program) (t : TypeId) (x ix : Value) (h : AHeap) (nx : Nat) : Option ARes :=
  match P.underlying t, x, ix with
  | some (.array len elem), .agg cs, .int _ i => match sizeO P elem with
    | some n => (partA P elem cs (i.toNat * n)).map fun v => ⟨decide (0 ≤ i) && decide (i < len), v, h, nx⟩
    | none => none
  | some .string, .string s, .int _ i => match s[i.toNat]? with
    | some b => some ⟨decide (0 ≤ i), .int .u8 b.toNat, h, nx⟩
    | none => none
  | _, _, _ => none
def extractA (x : Value) (i : Nat) (h : AHeap) (nx : Nat) : Option ARes :=
  match x with
  | .tuple vs => (fget vs i).map fun v => ⟨true, v, h, nx⟩
  | _ => none
/-- A row, so often. -/
def repA (n : Nat) (l : List Value) : List Value := Nat.rec (motive := fun _ => List Value) [] (fun _ ih => l ++ ih) n
/-- The zero values of a row of len elements, each of n cells. -/
def rowA (P : Program) (elem : TypeId) (len n : Nat) : Option (List Value) :=
  bif Nat.beq (len * n) 0 then some [] else
    match (P.info? elem).bind (·.zero) with
    | some z => bif bel B0 z && Nat.beq z.cells.size n then some (repA len z.cells.toList) else none
    | none => none
def buildSliceA (P : Program) (t : TypeId) (len : Nat) (parts : List (Nat × Value)) (h : AHeap) (nx : Nat) : Option ARes :=
  match P.underlying t with
  | some (.slice elem) => match sizeO P elem with
    | some n => bif Nat.ble (len * n) 16777216 && Nat.blt len B0 then
        match rowA P elem len n with
        | some l => (fillF (fun i => some (i * n, n)) l parts).map fun cs => ⟨true, .slice (some ⟨nx, 0, none⟩) len len, h.set nx ⟨⟨cs⟩, elem, none⟩, nx + 1⟩
        | none => none
      else none
    | none => none
  | _ => none
/-- An end of a slice expression, and where it stands. -/
def endA (x : Option Value) (d : Nat) : Option (Int × Nat) :=
  match x with
  | none => some (d, d)
  | some (.int _ i) => some (i, i.toNat)
  | some _ => none
def cutsA (len cap : Nat) (lo hi mx : Option Value) : Option (Bool × Nat × Nat × Nat) :=
  match endA mx cap with
  | some (mi, m) => match endA hi len with
    | some (hi', h) => match endA lo 0 with
      | some (li, l) => bif mx.isSome && hi.isNone then none else some ((bif mx.isSome then decide (0 ≤ mi) && decide (mi ≤ cap) else true) && ((bif hi.isSome then decide (0 ≤ hi') && decide (hi' ≤ m) else true) && (bif lo.isSome then decide (0 ≤ li) && decide (li ≤ h) else true)), l, h, m)
      | none => none
    | none => none
  | none => none
def sliceA (P : Program) (t : TypeId) (x : Value) (lo hi mx : Option Value) (h : AHeap) (nx : Nat) : Option ARes :=
  match P.underlying t, x with
  | some .string, .string s => bif mx.isSome then none else match cutsA s.size s.size lo hi none with
    | some (ok, l, e, _) => some ⟨ok, .string (s.extract l e), h, nx⟩
    | none => none
  | some (.slice elem), .slice a len cap => bif Nat.blt cap B0 then match cutsA len cap lo hi mx, sizeO P elem with
      | some (ok, l, e, m), some n => some ⟨ok && Nat.ble m cap, .slice (bif Nat.beq m l then a else a.map (·.add (l * n))) (e - l) (m - l), h, nx⟩
      | _, _ => none
    else none
  | some (.array len elem), .pointer (some a) => bif Nat.blt len B0 then match cutsA len len lo hi mx, sizeO P elem with
      | some (ok, l, e, m), some n => some ⟨ok && Nat.ble m len, .slice (some (bif Nat.beq m l then a else a.add (l * n))) (e - l) (m - l), h, nx⟩
      | _, _ => none
    else none
  | _, _ => none
/-- What an operation does, told of its text alone (so that the kernel tells it once). -/
structure HdA where
  run : AHeap → (Operand → Value) → AHeap → Nat → Option ARes
def hdlD (P : Program) (so : TypeId → Bool) (op : Op) : HdA :=
  match op with
  | .move x => ⟨fun _ e h nx => retA (e x) h nx⟩
  | .assign x => ⟨fun _ e h nx => retA (e x) h nx⟩
  | .pick c a b => ⟨fun _ e h nx => pickA (e c) (e a) (e b) h nx⟩
  | .alloc T => ⟨fun _ _ h nx => allocA P T h nx⟩
  | .box T x => ⟨fun _ e h nx => some ⟨true, ptr nx, h.set nx ⟨(e x).cells, T, none⟩, nx + 1⟩⟩
  | .build t parts => ⟨fun _ e h nx => retO (buildA P t (parts.toList.map fun p => (p.1, e p.2))) h nx⟩
  | .buildSlice t len parts => ⟨fun _ e h nx => buildSliceA P t len (parts.toList.map fun p => (p.1, e p.2)) h nx⟩
  | .slice t x lo hi mx => ⟨fun _ e h nx => sliceA P t (e x) (lo.map e) (hi.map e) (mx.map e) h nx⟩
  | .load t x => ⟨fun g e h nx => loadA P g t (e x) h nx⟩
  | .store t x y => ⟨fun _ e h nx => storeA P t (e x) (e y) h nx⟩
  | .nilCheck x => ⟨fun _ e h nx => nilA (e x) h nx⟩
  | .binOp op t x y _ => ⟨fun _ e h nx => (binA P so op t (e x) (e y)).map fun r => ⟨r.1, r.2, h, nx⟩⟩
  | .unOp op _ x => ⟨fun _ e h nx => unA op (e x) h nx⟩
  | .convert src dst x => ⟨fun _ e h nx => convA P src dst (e x) h nx⟩
  | .makeFunc fn f c => ⟨fun _ e h nx => retA (.func fn ⟨f.toList.map e⟩ ⟨c.toList.map e⟩) h nx⟩
  | .makeInterface t x => ⟨fun _ e h nx => ifaceA P t (e x) h nx⟩
  | .fieldAddr s x f => ⟨fun _ e h nx => fieldAddrA P s (e x) f h nx⟩
  | .field t x f => ⟨fun _ e h nx => fieldA P t (e x) f h nx⟩
  | .indexAddr t x ix => ⟨fun _ e h nx => indexAddrA P t (e x) (e ix) h nx⟩
  | .index t x ix => ⟨fun _ e h nx => indexA P t (e x) (e ix) h nx⟩
  | .extract x i => ⟨fun _ e h nx => extractA (e x) i h nx⟩
  | _ => ⟨fun _ _ _ _ => none⟩
def hdl (P : Program) (so : TypeId → Bool) (o : Oper) : HdA := bif o.op.operands.toList.all opndOk then hdlD P so o.op else ⟨fun _ _ _ _ => none⟩
def aop (P : Program) (so : TypeId → Bool) (g : AHeap) (o : Oper) (e : Operand → Value) (h : AHeap) (nx : Nat) : Option ARes := (hdl P so o).run g e h nx

/-- In every world in which the known part lies, m comes to r. -/
def OpOk (P : Program) (m : Sem Next) (ρ : Nat → Nat) (g h : AHeap) (nx : Nat) (w : World) (r : ARes) : Prop :=
  ∃ ρ' w', (m.run P w = .ok (.value (ren ρ' r.v)) w' ∨ (m.run P w = .ok .skip w' ∧ r.v = undef)) ∧ Rel ρ' g r.h r.nx w' ∧ Step ρ h nx w ρ' r.h r.nx w' ∧ bel r.nx r.v = true

section
variable {P : Program} {so : TypeId → Bool} {ρ : Nat → Nat} {g h : AHeap} {nx : Nat} {w : World}
theorem Rel.step (R : Rel ρ g h nx w) : Step ρ h nx w ρ h nx w := Step.refl ρ h nx w fun b B hb => (R.lt b B hb).2
theorem OpOk.pure {m : Sem Next} {v : Value} {ok : Bool} (R : Rel ρ g h nx w) (hm : m.run P w = .ok (.value (ren ρ v)) w) (hv : bel nx v = true) : OpOk P m ρ g h nx w ⟨ok, v, h, nx⟩ :=
  ⟨ρ, w, .inl hm, R, R.step, hv⟩
theorem Rel.look (R : Rel ρ g h nx w) {b : Nat} {B : ABlk} (hb : look g h b = some B) : BlkAt ρ w (ρ b) B ∧ BBel nx B ∧ b < nx := by
  unfold Den.look at hb
  cases hh : h.get b with
  | some C => rw [hh] at hb; simp at hb; subst hb; exact ⟨R.hat b C hh, R.hbel b C hh, (R.lt b C hh).2⟩
  | none => rw [hh] at hb; simp at hb; exact ⟨R.gat b B hb, R.gbel b B hb, R.glt b B hb⟩
theorem BlkAt.cell {c : Nat} {B : ABlk} (hB : BlkAt ρ w c B) {i : Nat} (hi : i < B.cells.size) : w.cell? ⟨c, i, none⟩ = (B.cells[i]?).map (ren ρ) := by
  obtain ⟨junk, h1, _⟩ := hB
  rw [cell_of_row w c i _ _ _ h1, Array.getElem?_append_left (by simpa using hi)]
  simp
theorem BlkAt.range {c : Nat} {B : ABlk} (hB : BlkAt ρ w c B) {o n : Nat} (hn : o + n ≤ B.cells.size) : w.rangeAt c o ((B.cells.extract o (o + n)).map (ren ρ)).toList := by
  intro j v hv
  rw [Array.getElem?_toList, Array.getElem?_map] at hv
  by_cases hj : j < n
  · rw [hB.cell (by omega)]
    rw [Array.getElem?_extract] at hv
    rw [if_pos (by omega)] at hv
    exact hv
  · rw [Array.getElem?_eq_none (by simp; omega)] at hv; cases hv
theorem BlkAt.there {c : Nat} {B : ABlk} (hB : BlkAt ρ w c B) {o n : Nat} (hn : o + n ≤ B.cells.size) : ∀ j, j < n → (w.cell? ⟨c, o + j, none⟩).isSome = true ∧ w.frozen? ⟨c, o + j, none⟩ = false := by
  intro j hj
  refine ⟨?_, ?_⟩
  · rw [hB.cell (by omega), Array.getElem?_eq_getElem (by omega)]; rfl
  · obtain ⟨junk, h1, _⟩ := hB; exact frozen_of_row w c _ _ _ h1
theorem run_sizeO {t : TypeId} {n : Nat} (hn : sizeO P t = some n) (w : World) : (sizeOf t).run P w = .ok n w := by
  unfold sizeO at hn
  cases hq : P.info? t with
  | none => simp [hq] at hn
  | some i => simp only [hq, Option.map_some, Option.some.injEq] at hn; simp [sizeOf, typeInfo, hq, hn]
theorem run_aload (R : Rel ρ g h nx w) {t : TypeId} {a : Addr} {v : Value} (hl : aload P g h t a = some v) :
    (loadVar t { a with block := ρ a.block }).run P w = .ok (ren ρ v) w ∧ bel nx v = true := by
  unfold aload at hl
  simp only [fext_eq, fget_eq] at hl
  split at hl
  · rename_i B d n hs hk hu hn
    obtain ⟨hB, hbb, _⟩ := R.look hk
    obtain ⟨ab, ao, as⟩ := a
    simp only at hs hk hl; subst hs
    cases hd : d.isRow <;> simp only [hd, cond_true, cond_false] at hl
    · have hlt : ao < B.cells.size := (Array.getElem?_eq_some_iff.1 hl).1
      have hc := hB.cell hlt
      rw [hl] at hc
      have ha : (isAgg t).run P w = .ok false w := by
        unfold isAgg; rw [Sem.run_bind, run_underlying hu w]; cases d <;> first | rfl | cases hd
      refine ⟨?_, hbb.1 v (Array.mem_of_getElem? hl)⟩
      simp only [loadVar, Sem.run_bind, ha, Result.andThen_ok, Bool.false_eq_true, if_false, run_load, hc, Option.map_some]
    · by_cases hle : Nat.ble (ao + n) B.cells.size = true
      · rw [hle] at hl; simp only [cond_true] at hl; cases hl
        have hle' : ao + n ≤ B.cells.size := by rwa [Nat.ble_eq] at hle
        refine ⟨?_, ?_⟩
        · have := run_loadVar_mid (P := P) w (ρ ab) ao t _ d (hB.range hle') hu hd (by
            unfold sizeO at hn; rw [hn, Array.length_toList, Array.size_map, Array.size_extract]; congr 1; omega)
          rw [Array.toArray_toList] at this; rw [ren_agg]; exact this
        · rw [bel_agg]; intro x hx
          obtain ⟨i, hi, rfl⟩ := Array.mem_iff_getElem.1 hx
          rw [Array.getElem_extract]; exact hbb.1 _ (Array.getElem_mem _)
      · simp only [Bool.not_eq_true] at hle; rw [hle] at hl; cases hl
  · cases hl
theorem run_storeVar_cells (w : World) (b o : Nat) (ty : TypeId) (v : Value) (n : Nat) (hn : sizeO P ty = some n) (hs : v.cells.size = n) (ht : ∀ j, j < v.cells.size → (w.cell? ⟨b, o + j, none⟩).isSome = true ∧ w.frozen? ⟨b, o + j, none⟩ = false) (h1 : v.cells.all (·.oneCell') = true) :
    (storeVar ty ⟨b, o, none⟩ v).run P w = .ok () (w.setCells b o v.cells.toList) := by
  have := run_storeCells_cells (P := P) b o v.cells.toList 0 w (fun j hj => by simpa using (ht j (by simpa using hj)).1) (fun j hj => by simpa using (ht j (by simpa using hj)).2)
    (fun v hv => (Array.all_eq_true_iff_forall_mem.1 h1) v (by simpa using hv))
  simp only [Nat.add_zero] at this
  simp [storeVar, run_sizeO hn, hs, this]
theorem run_astore (R : Rel ρ g h nx w) {t : TypeId} {a : Addr} {v : Value} {h' : AHeap} (hl : astore P h t a v = some h') (hv : bel nx v = true) :
    ∃ w', (storeVar t { a with block := ρ a.block } (ren ρ v)).run P w = .ok () w' ∧ Rel ρ g h' nx w' ∧ Step ρ h nx w ρ h' nx w' := by
  unfold astore at hl
  simp only [fall_eq, wrF_arr] at hl
  split at hl
  · rename_i B n hs hk hn
    obtain ⟨ab, ao, as⟩ := a
    simp only at hs hk hl; subst hs
    cases hc : (Nat.beq v.cells.size n && Nat.ble (ao + n) B.cells.size && v.cells.all (·.oneCell')) <;> simp only [hc, cond_true, cond_false] at hl
    · cases hl
    · cases hl
      simp only [Bool.and_eq_true, Nat.beq_eq, Nat.ble_eq] at hc
      obtain ⟨⟨h1, h2⟩, h3⟩ := hc
      have hW := R.write hk ao v.cells.toList (by rw [Array.length_toList, h1]; exact h2) (fun x hx => bel_cells hv x (by simpa using hx))
      refine ⟨_, ?_, hW.1, hW.2⟩
      have hcs : (ren ρ v).cells.toList = v.cells.toList.map (ren ρ) := by rw [ren_cells]; simp
      rw [← hcs]
      refine run_storeVar_cells w (ρ ab) ao t (ren ρ v) n hn (by rw [ren_cells, Array.size_map]; exact h1) (fun j hj => ?_) ?_
      · exact (R.hat ab B hk).there h2 j (by rw [ren_cells, Array.size_map] at hj; omega)
      · rw [ren_cells, Array.all_map]
        rw [← h3]; congr 1; funext x; exact ren_oneCell x
  · cases hl
theorem foldl_ren (f : Value → Value) (off : Nat) : ∀ (l : List (Value × Nat)) (cs : Array Value),
    (l.map fun p => (f p.1, p.2)).foldl (fun cs (c, j) => cs.setIfInBounds (off + j) c) (cs.map f) = (l.foldl (fun cs (c, j) => cs.setIfInBounds (off + j) c) cs).map f
  | [], _ => rfl
  | p :: r, cs => by
    simp only [List.map_cons, List.foldl_cons]
    rw [← foldl_ren f off r, Array.map_setIfInBounds]
theorem zipIdx_map_toList (f : Value → Value) (a : Array Value) : (a.map f).zipIdx.toList = a.zipIdx.toList.map fun p => (f p.1, p.2) := by
  simp [Array.toList_zipIdx, List.zipIdx_map]
theorem fill_ren (place : Nat → Option (Nat × Nat)) : ∀ (parts : List (Nat × Value)) (cs : Array Value) (ds : Array Value), Instr.fill place cs parts = some ds →
    Instr.fill place (cs.map (ren ρ)) (parts.map fun p => (p.1, ren ρ p.2)) = some (ds.map (ren ρ))
  | [], cs, ds, h => by simp only [Instr.fill, Option.some.injEq] at h; subst h; rfl
  | (i, v) :: rest, cs, ds, h => by
    simp only [Instr.fill, List.map_cons] at h ⊢
    cases hp : place i with
    | none => simp [hp] at h
    | some os =>
      obtain ⟨off, size⟩ := os
      simp only [hp] at h ⊢
      rw [ren_cells, Array.size_map, Array.size_map]
      split at h
      · cases h
      · rename_i hc
        rw [if_neg hc]
        have := fill_ren place rest _ _ h
        rw [← this]
        congr 1
        rw [← Array.foldl_toList, ← Array.foldl_toList, zipIdx_map_toList, foldl_ren]
theorem foldl_bel {n : Nat} (off : Nat) : ∀ (l : List (Value × Nat)) (cs : Array Value), (∀ x ∈ cs, bel n x = true) → (∀ p ∈ l, bel n p.1 = true) →
    ∀ x ∈ l.foldl (fun cs (c, j) => cs.setIfInBounds (off + j) c) cs, bel n x = true
  | [], _, h, _ => h
  | p :: r, cs, h, hl => foldl_bel off r _ (fun x hx => by
      rcases Array.mem_or_eq_of_mem_setIfInBounds hx with h1 | h1
      · exact h x h1
      · rw [h1]; exact hl p List.mem_cons_self) (fun q hq => hl q (List.mem_cons_of_mem _ hq))
theorem fill_bel {n : Nat} (place : Nat → Option (Nat × Nat)) : ∀ (parts : List (Nat × Value)) (cs : Array Value) (ds : Array Value), Instr.fill place cs parts = some ds →
    (∀ x ∈ cs, bel n x = true) → (∀ p ∈ parts, bel n p.2 = true) → ∀ x ∈ ds, bel n x = true
  | [], cs, ds, h, hc, _ => by simp only [Instr.fill, Option.some.injEq] at h; subst h; exact hc
  | (i, v) :: rest, cs, ds, h, hc, hp => by
    simp only [Instr.fill] at h
    split at h
    · cases h
    · split at h
      · cases h
      · refine fill_bel place rest _ ds h ?_ (fun p hp' => hp p (List.mem_cons_of_mem _ hp'))
        rw [← Array.foldl_toList]
        refine foldl_bel _ _ _ hc ?_
        intro p hp'
        have hv := hp (i, v) List.mem_cons_self
        rw [Array.toList_zipIdx] at hp'
        have := List.fst_mem_of_mem_zipIdx hp'
        exact bel_cells hv p.1 (by simpa using this)
theorem ren_low (R : Rel ρ g h nx w) {v : Value} (hv : bel B0 v = true) : ren ρ v = v := ren_id R.low v hv
theorem bel_low (R : Rel ρ g h nx w) {v : Value} (hv : bel B0 v = true) : bel nx v = true := bel_mono R.base v hv
theorem map_low (R : Rel ρ g h nx w) {cs : Array Value} (hv : ∀ v ∈ cs, bel B0 v = true) : cs.map (ren ρ) = cs := by
  conv => rhs; rw [← Array.map_id cs]
  exact Array.map_congr_left fun v hv' => ren_low R (hv v hv')
theorem zero_of_low {t : TypeId} {it : TypeInfo} {z : Value} (h : zeroLow P t = true) (hi : P.info? t = some it) (hz : it.zero = some z) : bel B0 z = true := by
  unfold zeroLow at h; rw [hi] at h; simpa [hz] using h
theorem fold_wr : ∀ (vs : List Value) (off k : Nat) (cs : Array Value), ((vs.zipIdx k).foldl (fun cs (c, j) => cs.setIfInBounds (off + j) c) cs) = wr cs (off + k) vs
  | [], _, _, _ => rfl
  | v :: r, off, k, cs => by
    rw [List.zipIdx_cons, List.foldl_cons, fold_wr r off (k + 1), wr, Nat.add_assoc]
theorem fillF_eq (place : Nat → Option (Nat × Nat)) : ∀ (parts : List (Nat × Value)) (cs ds : List Value), fillF place cs parts = some ds → Instr.fill place ⟨cs⟩ parts = some ⟨ds⟩
  | [], cs, ds, h => by simp only [fillF, Option.some.injEq] at h; subst h; rfl
  | (i, v) :: rest, cs, ds, h => by
    simp only [fillF] at h
    simp only [Instr.fill]
    cases hp : place i with
    | none => rw [hp] at h; cases h
    | some os =>
      obtain ⟨off, size⟩ := os
      rw [hp] at h
      simp only at h ⊢
      cases hc : (Nat.beq v.cells.size size && Nat.ble (off + size) cs.length) <;> simp only [hc, cond_true, cond_false] at h
      · cases h
      · rw [Bool.and_eq_true, Nat.beq_eq, Nat.ble_eq] at hc
        have h1 : ¬ (v.cells.size ≠ size || off + v.cells.size > (⟨cs⟩ : Array Value).size) = true := by
          simp only [List.size_toArray, Bool.or_eq_true, decide_eq_true_eq, not_or]
          omega
        rw [if_neg h1]
        have := fillF_eq place rest _ ds h
        rw [← this]
        congr 1
        rw [wrL_eq, ← Array.foldl_toList, Array.toList_zipIdx, fold_wr]; rfl
theorem placesA_eq : ∀ (fs : List Field) (pl : List (Nat × Nat)), placesA P fs = some pl → fs.mapM (fun f => (P.info? f.type).map fun i => (f.offset, i.size)) = some pl
  | [], pl, h => by cases h; rfl
  | f :: fs, pl, h => by
    unfold placesA at h
    split at h
    · rename_i n r h1 h2
      cases h
      have ih := placesA_eq fs r h2
      unfold sizeO at h1
      cases hi : P.info? f.type with
      | none => rw [hi] at h1; cases h1
      | some it => rw [hi] at h1; simp only [Option.map_some, Option.some.injEq] at h1; simp [List.mapM_cons, hi, ih, h1]
    · cases h
theorem buildA_eq {t : TypeId} {parts : List (Nat × Value)} {v : Value} (hb : buildA P t parts = some v) : zeroLow P t = true ∧ ∃ cs, P.built t parts = some cs ∧ v = .agg cs := by
  unfold buildA at hb
  cases hzl : zeroLow P t <;> simp only [hzl, cond_true, cond_false] at hb
  · cases hb
  refine ⟨rfl, ?_⟩
  unfold Program.built
  split at hb
  · rename_i z fields hz hu
    split at hb
    · rename_i pl hpl
      cases hf : fillF (fun i => pl[i]?) z.cells.toList parts with
      | none => rw [hf] at hb; cases hb
      | some l =>
        rw [hf] at hb; cases hb
        cases hi : P.info? t with
        | none => rw [hi] at hz; cases hz
        | some it =>
          rw [hi] at hz
          simp only [Option.bind_some] at hz
          simp only [hu, hz, placesA_eq _ _ hpl]
          refine ⟨⟨l⟩, ?_, rfl⟩
          have := fillF_eq _ _ _ _ hf
          simpa using this
    · cases hb
  · rename_i z n elem hz hu
    split at hb
    · rename_i n hn
      cases hf : fillF (fun i => some (i * n, n)) z.cells.toList parts with
      | none => rw [hf] at hb; cases hb
      | some l =>
        rw [hf] at hb; cases hb
        cases hi : P.info? t with
        | none => rw [hi] at hz; cases hz
        | some it =>
          rw [hi] at hz
          simp only [Option.bind_some] at hz
          unfold sizeO at hn
          cases hie : P.info? elem with
          | none => rw [hie] at hn; cases hn
          | some ie =>
            rw [hie] at hn
            simp only [Option.map_some, Option.some.injEq] at hn
            simp only [hu, hz, hie]
            subst hn
            exact ⟨⟨l⟩, fillF_eq _ _ _ _ hf, rfl⟩
    · cases hb
  · cases hb
theorem run_buildA (R : Rel ρ g h nx w) {t : TypeId} {parts : List (Nat × Value)} {v : Value} (hb : buildA P t parts = some v) (hp : ∀ p ∈ parts, bel nx p.2 = true) :
    (Instr.build t (parts.map fun p => (p.1, ren ρ p.2)).toArray).run P w = .ok (ren ρ v) w ∧ bel nx v = true := by
  obtain ⟨hzl, cs, hbt, rfl⟩ := buildA_eq hb
  have key : P.built t (parts.map fun p => (p.1, ren ρ p.2)) = some (cs.map (ren ρ)) ∧ ∀ x ∈ cs, bel nx x = true := by
    unfold Program.built at hbt ⊢
    split at hbt
    · rename_i it len e hit hu
      split at hbt
      · rename_i z ie hz he
        have hzb := zero_of_low hzl hit hz
        have hzc : z.cells.map (ren ρ) = z.cells := map_low R (bel_cells hzb)
        have h1 := fill_ren (ρ := ρ) _ _ _ _ hbt
        rw [hzc] at h1
        exact ⟨h1, fill_bel _ _ _ _ hbt (fun x hx => bel_low R (bel_cells hzb x hx)) hp⟩
      · cases hbt
    · rename_i it fields hit hu
      split at hbt
      · rename_i z pl hz hpl
        have hzb := zero_of_low hzl hit hz
        have hzc : z.cells.map (ren ρ) = z.cells := map_low R (bel_cells hzb)
        have h1 := fill_ren (ρ := ρ) _ _ _ _ hbt
        rw [hzc] at h1
        exact ⟨h1, fill_bel _ _ _ _ hbt (fun x hx => bel_low R (bel_cells hzb x hx)) hp⟩
      · cases hbt
    · cases hbt
  refine ⟨?_, bel_agg.2 key.2⟩
  rw [ren_agg]
  exact run_build w t _ _ (by simpa using key.1)
theorem ren_nilIface {v : Value} (h : ren ρ v = .nilIface) : v = .nilIface := by
  cases v with
  | pointer a => cases a <;> cases h
  | slice a l c => cases a <;> cases h
  | map a => cases a <;> cases h
  | chan a => cases a <;> cases h
  | agg cs => rw [ren_agg] at h; cases h
  | tuple cs => rw [ren_tuple] at h; cases h
  | func fn f c => rw [ren_func] at h; cases h
  | _ => first | rfl | cases h
theorem ren_isAgg {v : Value} {xs : Array Value} (h : ren ρ v = .agg xs) : ∃ ys, v = .agg ys := by
  cases v with
  | pointer a => cases a <;> cases h
  | slice a l c => cases a <;> cases h
  | map a => cases a <;> cases h
  | chan a => cases a <;> cases h
  | agg cs => exact ⟨cs, rfl⟩
  | tuple cs => rw [ren_tuple] at h; cases h
  | func fn f c => rw [ren_func] at h; cases h
  | _ => cases h
theorem eqA_so {d : Nat} {t : TypeId} {xs ys : Array Value} {c : Bool} (hc : eqA P so (d + 1) t (.agg xs) (.agg ys) = some c) : so t = true := by
  unfold eqA at hc
  split at hc
  all_goals first
    | (cases hc; done)
    | (cases hs : so t <;> simp only [hs, cond_true, cond_false] at hc <;> first | rfl | (cases hc; done))
    | simp_all
theorem guard_eqA (hso : ∀ t, so t = true → P.stoodInHeld t = false ∧ P.eqGuardType P.depth t = false) {op : BinOp} {t : TypeId} {x y : Operand} {a b : Value} {d : Nat} {c : Bool}
    (hc : eqA P so (d + 1) t a b = some c) (hn : a = .nilIface → b = .nilIface → False) (w : World) : (eqGuard op t x y (ren ρ a) (ren ρ b)).run P w = .ok () w := by
  by_cases hab : (∃ xs, a = .agg xs) ∧ ∃ ys, b = .agg ys
  · obtain ⟨⟨xs, rfl⟩, ys, rfl⟩ := hab
    rw [ren_agg, ren_agg]
    exact run_eqGuard_agg w op t x y _ _ (hso t (eqA_so hc)).2
  · have aux : ∀ a' b', a' = ren ρ a → b' = ren ρ b → (eqGuard op t x y a' b').run P w = .ok () w := by
      intro a' b' ha hb
      cases op <;> first
        | rfl
        | (cases a' with
           | nilIface => cases b' with
             | nilIface => exact (hn (ren_nilIface ha.symm) (ren_nilIface hb.symm)).elim
             | _ => rfl
           | agg xs => cases b' with
             | agg ys => exact absurd ⟨ren_isAgg ha.symm, ren_isAgg hb.symm⟩ hab
             | _ => rfl
           | _ => rfl)
    exact aux _ _ rfl rfl
theorem binOp_eqA {t : TypeId} {a b : Value} {c e : Bool} {d : Nat} (hc : eqA P so (d + 1) t a b = some c) (h1 : ∀ k i k' j, a = .int k i → b = .int k' j → False) (h2 : ∀ p q, a = .string p → b = .string q → False) (w : World)
    (he : (Op.equal t (ren ρ a) (ren ρ b)).run P w = .ok e w) :
    (binOp .eql t (ren ρ a) (ren ρ b)).run P w = .ok (.bool e) w ∧ (binOp .neq t (ren ρ a) (ren ρ b)).run P w = .ok (.bool (!e)) w := by
  have key : binOp .eql t (ren ρ a) (ren ρ b) = (do pure (.bool (← Op.equal t (ren ρ a) (ren ρ b)))) ∧ binOp .neq t (ren ρ a) (ren ρ b) = (do pure (.bool (!(← Op.equal t (ren ρ a) (ren ρ b))))) := by
    clear he
    unfold eqA at hc
    split at hc
    all_goals first
      | (cases hc; done)
      | (exact (h1 _ _ _ _ rfl rfl).elim)
      | (exact (h2 _ _ rfl rfl).elim)
      | (simp only [ren_agg, ren_func]; exact ⟨rfl, rfl⟩)
      | (simp only [ren]; exact ⟨rfl, rfl⟩)
      | (rename_i z _; cases z <;> (simp only [ren]; exact ⟨rfl, rfl⟩))
      | (rename_i z _ _; cases z <;> (simp only [ren]; exact ⟨rfl, rfl⟩))
      | (rename_i z _ _ _; cases z <;> (simp only [ren]; exact ⟨rfl, rfl⟩))
      | (simp only [ren_agg, ren_func, ren]; exact ⟨rfl, rfl⟩)
  rw [key.1, key.2]
  simp [he]
theorem run_binA (hso : ∀ t, so t = true → P.stoodInHeld t = false ∧ P.eqGuardType P.depth t = false) {op : BinOp} {t : TypeId} {x y : Operand} {a b : Value} {r : Bool × Value}
    (hr : binA P so op t a b = some r) (hok : r.1 = true) (w : World) :
    ((do eqGuard op t x y (ren ρ a) (ren ρ b); binOp op t (ren ρ a) (ren ρ b) : Sem Value)).run P w = .ok r.2 w ∧ (∀ ρ', ren ρ' r.2 = r.2) ∧ ∀ n, bel n r.2 = true := by
  unfold binA at hr
  split at hr
  · rename_i k i k' j
    simp only [ren]
    have hg : ∀ op : BinOp, eqGuard op t x y (.int k i) (.int k' j) = pure () := fun op => by cases op <;> rfl
    rw [hg]
    split at hr
    · cases hr
      have h0 : ¬ j < 0 := by simpa using hok
      exact ⟨by simp [binOp, Op.shift, h0], fun _ => rfl, fun _ => rfl⟩
    · cases hr
      have h0 : ¬ j < 0 := by simpa using hok
      exact ⟨by simp [binOp, Op.shift, h0], fun _ => rfl, fun _ => rfl⟩
    · split at hr
      · rename_i hk
        subst hk
        split at hr
        all_goals first
          | (cases hr; done)
          | (cases hr; refine ⟨?_, fun _ => rfl, fun _ => rfl⟩; simp [binOp, Op.intArith, Op.intBits, Op.intCmp]; done)
          | (cases hr; have h0 : ¬ j = 0 := (by simpa using hok); refine ⟨?_, fun _ => rfl, fun _ => rfl⟩; simp [binOp, Op.intDiv, h0]; done)
      · cases hr
  · rename_i p q
    simp only [ren]
    have hg : ∀ op : BinOp, eqGuard op t x y (.string p) (.string q) = pure () := fun op => by cases op <;> rfl
    rw [hg]
    split at hr
    all_goals first
      | (cases hr; done)
      | (cases hr; have h0 : ¬ ((p.size + q.size : Nat) : Int) > IntKind.i64.max := (by have := of_decide_eq_true hok; omega); refine ⟨?_, fun _ => rfl, fun _ => rfl⟩; (simp only [binOp, Op.stringOp, Sem.run_bind, Sem.run_pure, Result.andThen_ok, if_neg h0]; done))
      | (cases hr; refine ⟨?_, fun _ => rfl, fun _ => rfl⟩; simp [binOp, Op.stringOp]; done)
  · cases hr
  · rename_i n1 n2 n3
    split at hr
    · cases hc : eqA P so 20 t a b with
      | none => rw [hc] at hr; cases hr
      | some c =>
        rw [hc] at hr; cases hr
        have he : (Op.equal t (ren ρ a) (ren ρ b)).run P w = .ok c w := run_eqA hso 20 Op.maxDepth (by decide) t _ _ c (eqA_ren 20 t a b c hc) w
        have h4 := (binOp_eqA hc n1 n2 w he).1
        exact ⟨by simp [guard_eqA hso hc n3, h4], fun _ => rfl, fun _ => rfl⟩
    · cases hc : eqA P so 20 t a b with
      | none => rw [hc] at hr; cases hr
      | some c =>
        rw [hc] at hr; cases hr
        have he : (Op.equal t (ren ρ a) (ren ρ b)).run P w = .ok c w := run_eqA hso 20 Op.maxDepth (by decide) t _ _ c (eqA_ren 20 t a b c hc) w
        have h4 := (binOp_eqA hc n1 n2 w he).2
        exact ⟨by simp [guard_eqA hso hc n3, h4], fun _ => rfl, fun _ => rfl⟩
    · cases hr
end
end
end Go.Den
