
/-
  Octet: Put.
-/
import Derived.Test.YtbmifinomdcllaaOcF

import Derived.Laws.CopyOwn

import Derived.Laws.MakeOwn

namespace Go.Proofs.Ytbmifinomdcllaa

open Go.RowKit Go.Lib

set_option maxRecDepth 100000

theorem info_u8 : (Try.prog.info? 5).map (fun i => (i.zero, i.size, i.bytes)) = some (some (.int .u8 0), 1, 1) := by kernel_rfl
def zerosV (n : Nat) : List Value := List.replicate n (.int .u8 0)
theorem made_u8 (n : Nat) : madeCells (Value.int .u8 0).cells n = (zerosV n).toArray := by
  apply Array.ext
  · simp [size_madeCells, zerosV]
  · intro i h1 h2
    simp [madeCells, zerosV, Value.cells, Nat.mod_one]
theorem make_u8 (n : Nat) (hn : n ≤ 1099511627776) (w : World) :
    (Instr.makeSlice 22 (.int .i64 n) (.int .i64 n)).run Try.prog w = .ok (.slice (some ⟨w.heap.size, 0, none⟩) n n) (w.alloc (.cells (zerosV n).toArray 5)) := by
  obtain ⟨i, hi, hz, hs, hb⟩ : ∃ i, Try.prog.info? 5 = some i ∧ i.zero = some (.int .u8 0) ∧ i.size = 1 ∧ i.bytes = 1 := by
    have h := info_u8
    cases hq : Try.prog.info? 5 with
    | none => rw [hq] at h; cases h
    | some i => rw [hq] at h; simp at h; exact ⟨i, rfl, h.1, h.2.1, h.2.2⟩
  have h := run_make (P := Try.prog) w 22 5 i (.int .u8 0) Try.underlying22 hi hz .i64 .i64 n n (by omega) (Int.le_refl _) (by rw [hb]; omega) (by omega)
  rw [hs, Nat.mul_one, Int.toNat_natCast, made_u8] at h
  exact h
theorem putc {w : World} {g m len : Nat} {cs : List Value} (h : Blk w g (cs ++ zerosV m).toArray 5) (hl : cs.length = len) (j : Nat) (hj : j < m) : w.cell? ⟨g, len + j, none⟩ = some (.int .u8 0) ∧ w.frozen? ⟨g, len + j, none⟩ = false := by
  refine ⟨?_, h.free _⟩
  rw [h.cell]
  subst hl
  simp [zerosV, hj]
theorem putc0 {w : World} {g m len : Nat} {cs : List Value} (h : Blk w g (cs ++ zerosV (m + 1)).toArray 5) (hl : cs.length = len) : w.cell? ⟨g, len, none⟩ = some (.int .u8 0) ∧ w.frozen? ⟨g, len, none⟩ = false := putc h hl 0 (by omega)
/-- A block that holds just the bytes. -/
theorem rd_of_blk {w : World} {g : Nat} {l : List UInt8} {T : TypeId} (h : Blk w g (l.map u8).toArray T) : Rd w (some ⟨g, 0, none⟩) l := fun _ => by
  refine ⟨g, 0, rfl, fun j x hx => ?_⟩
  rw [Nat.zero_add, h.cell]
  simp [hx]
theorem src_of {w : World} {A : Option Addr} {l : List UInt8} (hr : Rd w A l) {len T : Nat} (hl : l.length = len) (hlT : len ≤ T) :
    ∃ cs : List Value, cs = l.map u8 ∧ cs.length = Nat.min len T ∧ 0 + cs.length ≤ (zerosV T).length ∧ (∀ v ∈ cs, v.oneCell' = true) ∧ (∀ ww : World, Below w.heap.size w ww → 0 < cs.length → ∃ ad, A = some ad ∧ ∀ j v, cs[j]? = some v → ww.cell? (ad.add j) = some v) := by
  refine ⟨l.map u8, rfl, by rw [List.length_map, hl]; exact (Nat.min_eq_left (by omega)).symm, by simp [zerosV]; omega, fun v hv => by obtain ⟨x, _, rfl⟩ := List.mem_map.1 hv; rfl, fun ww hww hpos => ?_⟩
  obtain ⟨blk, off, hA, hc⟩ := (hr.below hww) (by intro e; subst e; simp at hpos)
  refine ⟨_, hA, fun j v hv => ?_⟩
  rw [List.getElem?_map] at hv
  cases hx : l[j]? with
  | none => rw [hx] at hv; cases hv
  | some x => rw [hx] at hv; cases hv; rw [plain_add]; exact hc j x hx
theorem setRow_cell {cur : Array Value} {i : Nat} {v : Value} (hi : i < cur.size) : (cur.toList.take i ++ [v] ++ cur.toList.drop (i + 1)).toArray = cur.setIfInBounds i v := by
  apply Array.ext'
  rw [Array.toList_setIfInBounds, List.set_eq_take_append_cons_drop, if_pos (by simpa using hi)]
  simp
/-- A store of one cell into a block that is known whole: the world behind it is a letter. -/
theorem at_put {P : Program} {ops : Array Oper} {rest : List Oper} {o : Oper} {a : Act} {w : World} {Q : Exit → Act → World → Prop} (hgd : o.guard = none) (ty : TypeId) (x y : Operand) (ho : o.op = .store ty x y)
    (hd : o.dst = none) (g i : Nat) (v : Value) (hx : a.eval x = .pointer (some ⟨g, i, none⟩)) (hy : a.eval y = v) (h1 : v.oneCell' = true)
    (t : TypeId) (cur : Array Value) (hg : Blk w g cur t) (hi : i < cur.size) (hs : (P.info? ty).map (·.size) = some 1) (w0 : World) (hb : Below w0.heap.size w0 w) (hBg : w0.heap.size ≤ g)
    (h : ∀ w', Blk w' g (cur.setIfInBounds i v) t → Below w0.heap.size w0 w' → (∀ b cs T, b ≠ g → Blk w b cs T → Blk w' b cs T) → wpList P ops Q rest a w') : wpList P ops Q (o :: rest) a w := by
  subst hy
  refine wpList_plain hgd fun K hK => ?_
  have hrun := run_storeCells_at P g i t [a.eval y] 0 cur w hg (by simp; omega) (fun u hu => by rw [List.mem_singleton] at hu; subst hu; exact h1)
  rw [Nat.add_zero, List.length_singleton, setRow_cell hi] at hrun
  have hc : (a.eval y).cells = #[a.eval y] := by cases hq : a.eval y <;> first | rfl | (rw [hq] at h1; cases h1)
  cases hq : P.info? ty with
  | none => simp [hq] at hs
  | some inf =>
    have hs1 : inf.size = 1 := by simpa [hq] using hs
    have hst : (storeVar ty ⟨g, i, none⟩ (a.eval y)).run P w = .ok () (w.setRow g (cur.setIfInBounds i (a.eval y))) := by
      simp [storeVar, sizeOf, typeInfo, hq, hc, hs1, hrun]
    unfold Oper.wp execOp
    simp only [ho, hx, Instr.storeAt, Instr.sureAddr, Sem.run_bind, Sem.run_pure, Result.andThen_ok, hst]
    refine hK _ _ ?_
    rw [hd]
    exact h _ (setRow_heap w g _ _ t _ hg) (below_setRow hb hBg _) (fun b cs T hne hcs => (setRow_other w g b _ hne).trans hcs)
end Go.Proofs.Ytbmifinomdcllaa
