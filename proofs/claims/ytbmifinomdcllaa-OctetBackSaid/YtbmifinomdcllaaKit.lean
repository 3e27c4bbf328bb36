
/-
  Small lemmas of my own on blocks of memory: what a block of cells holds, and that calls which only make memory leave it.
-/
import Derived.Test.YtbmifinomdcllaaRows

import Derived.WalkKit

import Derived.WalkSpells

import Derived.ProofKit

import Derived.OpenShut

import Derived.Lib.Hide

import Derived.OneCell

import Derived.BigQuiet

import Derived.Deep.QuietTactic

import Derived.Deep.RegionHeld3

import Derived.Deep.DrawnRows

import Derived.Deep.DeepCutAuto

import Derived.Laws.Externs

import Derived.IntWalk

namespace Go.Proofs.Ytbmifinomdcllaa

open Go.RowKit

/-- Block b of w is the cells cs, of type T, none of them frozen. -/
def Blk (w : World) (b : Nat) (cs : Array Value) (T : TypeId) : Prop := w.heap[b]? = some (.cells cs T (0, 0))
theorem Blk.cell {w : World} {b : Nat} {cs : Array Value} {T : TypeId} (h : Blk w b cs T) (i : Nat) : w.cell? ⟨b, i, none⟩ = cs[i]? := by
  unfold Blk at h; simp [World.cell?, h]
theorem Blk.free {w : World} {b : Nat} {cs : Array Value} {T : TypeId} (h : Blk w b cs T) (i : Nat) : w.frozen? ⟨b, i, none⟩ = false := by
  unfold Blk at h; simp [World.frozen?, h]
theorem Blk.lt {w : World} {b : Nat} {cs : Array Value} {T : TypeId} (h : Blk w b cs T) : b < w.heap.size := lt_of_block h
theorem Blk.one {w : World} {b : Nat} {x : Value} {T : TypeId} (h : Blk w b #[x] T) : w.cell? ⟨b, 0, none⟩ = some x := h.cell 0
theorem Blk.two {w : World} {b : Nat} {x y : Value} {T : TypeId} (h : Blk w b #[x, y] T) : w.cell? ⟨b, 0, none⟩ = some x ∧ w.cell? ⟨b, 1, none⟩ = some y := ⟨h.cell 0, h.cell 1⟩
theorem Blk.free0 {w : World} {b : Nat} {cs : Array Value} {T : TypeId} (h : Blk w b cs T) : w.frozen? ⟨b, 0, none⟩ = false ∧ w.frozen? ⟨b, 1, none⟩ = false := ⟨h.free 0, h.free 1⟩
theorem Blk.drew {w : World} {b : Nat} {cs : Array Value} {T : TypeId} (h : Blk w b cs T) : Blk w.drew b cs T := h
theorem Blk.new {w : World} {b : Nat} {cs : Array Value} {T : TypeId} (hb : b = w.heap.size) : Blk (w.alloc (.cells cs T)) b cs T := by
  subst hb; show (w.heap.push _)[w.heap.size]? = _; simp
theorem Blk.old {w : World} {b : Nat} {cs : Array Value} {T : TypeId} (h : Blk w b cs T) (o : Obj) : Blk (w.alloc o) b cs T := by
  have := h.lt; unfold Blk at *; rw [Below.heap_alloc _ _ _ this]; exact h
theorem Blk.keep {w w' : World} {b : Nat} {cs : Array Value} {T : TypeId} (hb : Below w.heap.size w w') (h : Blk w b cs T) : Blk w' b cs T := by
  have := h.lt; unfold Blk at *; rw [hb.block _ this]; exact h
theorem Blk.put {w : World} {b i : Nat} {cs : Array Value} {T : TypeId} (h : Blk w b cs T) (v : Value) : Blk (w.setCell ⟨b, i, none⟩ v) b (cs.setIfInBounds i v) T := by
  have hlt := h.lt
  unfold Blk at *
  have h' : w.heap[b] = .cells cs T (0, 0) := by simpa [Array.getElem?_eq_getElem hlt] using h
  show (w.heap.modify b _)[b]? = _
  rw [Array.getElem?_eq_getElem (by simpa using hlt), Array.getElem_modify_self, h']
  rfl
theorem Blk.else {w : World} {b : Nat} {a : Addr} {cs : Array Value} {T : TypeId} (h : Blk w b cs T) (v : Value) (hb : b ≠ a.block) : Blk (w.setCell a v) b cs T := by
  unfold Blk at *; rw [Below.heap_setCell _ _ _ _ hb]; exact h
theorem Blk.else2 {w : World} {b b' : Nat} {cs : Array Value} {x y : Value} {T : TypeId} (n : Blk w b' cs T) (hne : b' ≠ b) : Blk ((w.setCell ⟨b, 0, none⟩ x).setCell ⟨b, 1, none⟩ y) b' cs T := (n.else (a := ⟨b, 0, none⟩) x hne).else (a := ⟨b, 1, none⟩) y hne
theorem Below.put2 {w0 w : World} {b B : Nat} {x y : Value} (h : Below B w0 w) (hb : B ≤ b) : Below B w0 ((w.setCell ⟨b, 0, none⟩ x).setCell ⟨b, 1, none⟩ y) := (h.setCell (p := ⟨b, 0, none⟩) hb x).setCell (p := ⟨b, 1, none⟩) hb y
/-- Below the size that it had a world is as it was, over one more call. -/
theorem keepW {W w w' : World} (h : Below W.heap.size W w) (hb : Below w.heap.size w w') : Below W.heap.size W w' := h.trans (hb.mono h.size)

section

variable {P : Program} {l : List Oper} {Q : Exit → Act → World → Prop} {md : Region.Mode} {S : World → Prop}

/-- An operation that is wanted, and yields its value in every world that meets S, is taken first. -/
theorem H.take (i : Nat) {o : Oper} {v : Value} {fuel : Nat} {listed : Array Bool} {a : Act} {w : World} (ho : l[i]? = some o)
    (hc : (Region.noSelect l.toArray && Region.free md l.toArray listed i && (Region.ready md l.toArray listed).contains i) = true)
    (hQ : ∀ c a w, Q (.panic c) (a.put o.dst v) w → Q (.panic c) a w)
    (hw : Region.wanted o (yielded l.toArray a.tmps) = true) (hv : ∀ w, S w → (execOp a.eval o).run P w = .ok (.value v) w) (hS : S w)
    (h : wpAnyH P md l.toArray Q S fuel (listed.setIfInBounds i true) (a.put o.dst v) w) : wpAnyH P md l.toArray Q S (fuel + 1) listed a w := by
  simp only [Bool.and_eq_true] at hc
  exact wpAnyH_take (by simpa using ho) hc.1.1 hc.1.2 hc.2 hQ (Or.inl ⟨hw, hv⟩) hS h
/-- An operation that is not wanted (its guard said otherwise) is passed by. -/
theorem H.skip (i : Nat) {o : Oper} {fuel : Nat} {listed : Array Bool} {a : Act} {w : World} (ho : l[i]? = some o)
    (hc : (Region.noSelect l.toArray && Region.free md l.toArray listed i && (Region.ready md l.toArray listed).contains i) = true)
    (hQ : ∀ c a w, Q (.panic c) (a.put o.dst undef) w → Q (.panic c) a w)
    (hw : Region.wanted o (yielded l.toArray a.tmps) = false) (hS : S w)
    (h : wpAnyH P md l.toArray Q S fuel (listed.setIfInBounds i true) (a.put o.dst undef) w) : wpAnyH P md l.toArray Q S (fuel + 1) listed a w := by
  simp only [Bool.and_eq_true] at hc
  exact wpAnyH_take (by simpa using ho) hc.1.1 hc.1.2 hc.2 hQ (Or.inr ⟨hw, rfl⟩) hS h
/-- What may come up is known: one goal for each. -/
theorem H.ready (rs : List Nat) {fuel : Nat} {listed : Array Bool} {a : Act} {w : World} (hr : Region.ready md l.toArray listed = rs) (hne : rs ≠ [])
    (h : AllReadyH P md l.toArray Q S fuel listed a w rs) : wpAnyH P md l.toArray Q S (fuel + 1) listed a w := wpAnyH_ready hr hne h
theorem H.one {fuel : Nat} {listed : Array Bool} {a : Act} {w : World} {i : Nat} {o : Oper} {rs : List Nat} (ho : l[i]? = some o)
    (hw : Region.wanted o (yielded l.toArray a.tmps) = true)
    (h : ∀ K' : Act → World → Prop, Shut (∀ a w, S w → (S w → wpAnyH P md l.toArray Q S fuel (listed.setIfInBounds i true) a w) → K' a w) → Oper.wp P o a w K' Q)
    (hs : AllReadyH P md l.toArray Q S fuel listed a w rs) : AllReadyH P md l.toArray Q S fuel listed a w (i :: rs) :=
  AllReadyH.cons (by simpa using ho) (fun K hK => by rw [if_pos hw]; exact h K hK) hs
/-- Behind an alloc: the new block. -/
theorem H.fresh {fuel : Nat} {ops : Array Oper} {listed : Array Bool} {a : Act} {w : World} {cs : Array Value} {T : TypeId}
    (h : Blk (w.alloc (.cells cs T)) w.heap.size cs T → wpAnyH P md ops Q S fuel listed a (w.alloc (.cells cs T))) : wpAnyH P md ops Q S fuel listed a (w.alloc (.cells cs T)) := h (Blk.new rfl)
/-- Behind a store of two cells: the block that was written, and another one. -/
theorem H.stored2 {fuel : Nat} {ops : Array Oper} {listed : Array Bool} {a : Act} {w : World} {b : Nat} {p q x y : Value} {T : TypeId} (n : Blk w b #[p, q] T)
    (h : Blk ((w.setCell ⟨b, 0, none⟩ x).setCell ⟨b, 1, none⟩ y) b #[x, y] T → wpAnyH P md ops Q S fuel listed a ((w.setCell ⟨b, 0, none⟩ x).setCell ⟨b, 1, none⟩ y)) :
    wpAnyH P md ops Q S fuel listed a ((w.setCell ⟨b, 0, none⟩ x).setCell ⟨b, 1, none⟩ y) := h ((n.put (i := 0) x).put (i := 1) y)
theorem H.other2 {fuel : Nat} {ops : Array Oper} {listed : Array Bool} {a : Act} {w : World} {b b' : Nat} {cs : Array Value} {x y : Value} {T : TypeId} (n : Blk w b' cs T) (hne : b' ≠ b)
    (h : Blk ((w.setCell ⟨b, 0, none⟩ x).setCell ⟨b, 1, none⟩ y) b' cs T → wpAnyH P md ops Q S fuel listed a ((w.setCell ⟨b, 0, none⟩ x).setCell ⟨b, 1, none⟩ y)) :
    wpAnyH P md ops Q S fuel listed a ((w.setCell ⟨b, 0, none⟩ x).setCell ⟨b, 1, none⟩ y) := h ((n.else (a := ⟨b, 0, none⟩) x hne).else (a := ⟨b, 1, none⟩) y hne)
theorem H.done {listed : Array Bool} {a : Act} {w : World} (hr : Region.ready md l.toArray listed = []) (h : Q .normal a w) (fuel : Nat) : wpAnyH P md l.toArray Q S fuel listed a w := wpAnyH_done hr h fuel
end

end Go.Proofs.Ytbmifinomdcllaa
