/-
  Temporaries as a tree (quick for the kernel), and the row that it stands for.
-/
import Derived.Test.YtbhgibpocbmipaaDenE
namespace Go.Den
open Go.RowKit
noncomputable section

inductive Tr where
  | nil
  | node (v : Value) (l r : Tr)
def Tr.get (t : Tr) : Nat → Value :=
  Tr.rec (motive := fun _ => Nat → Value) (fun _ => undef)
    (fun v _ _ ihl ihr i => Nat.casesOn (motive := fun _ => Value) i v fun j => Bool.casesOn (motive := fun _ => Value) (Nat.beq (j % 2) 0) (ihr (j / 2)) (ihl (j / 2))) t
/-- At place i stands v: handed on with its spine told. -/
def Tr.putK {α : Type} (f : Nat) : Tr → Nat → Value → (Tr → α) → α :=
  Nat.rec (motive := fun _ => Tr → Nat → Value → (Tr → α) → α) (fun t _ _ k => k t)
    (fun _ ih t i v k => Tr.casesOn (motive := fun _ => α) t
      (Nat.casesOn (motive := fun _ => α) i (k (.node v .nil .nil)) fun j => Bool.casesOn (motive := fun _ => α) (Nat.beq (j % 2) 0) (ih .nil (j / 2) v fun r => k (.node undef .nil r)) (ih .nil (j / 2) v fun l => k (.node undef l .nil)))
      (fun a l r => Nat.casesOn (motive := fun _ => α) i (k (.node v l r)) fun j => Bool.casesOn (motive := fun _ => α) (Nat.beq (j % 2) 0) (ih r (j / 2) v fun r => k (.node a l r)) (ih l (j / 2) v fun l => k (.node a l r)))) f
def Tr.put (f : Nat) (t : Tr) (i : Nat) (v : Value) : Tr := t.putK f i v fun t => t
theorem Tr.putK_eq {α : Type} : ∀ (f : Nat) (t : Tr) (i : Nat) (v : Value) (k : Tr → α), t.putK f i v k = k (t.put f i v)
  | 0, _, _, _, _ => rfl
  | f + 1, t, i, v, k => by
    cases t with
    | nil =>
      cases i with
      | zero => rfl
      | succ j =>
        show Bool.casesOn (motive := fun _ => α) (Nat.beq (j % 2) 0) (Tr.putK f .nil (j / 2) v fun r => k (.node undef .nil r)) (Tr.putK f .nil (j / 2) v fun l => k (.node undef l .nil)) =
          k (Bool.casesOn (motive := fun _ => Tr) (Nat.beq (j % 2) 0) (Tr.putK f .nil (j / 2) v fun r => .node undef .nil r) (Tr.putK f .nil (j / 2) v fun l => .node undef l .nil))
        cases Nat.beq (j % 2) 0 <;> simp only [Tr.putK_eq f]
    | node a l r =>
      cases i with
      | zero => rfl
      | succ j =>
        show Bool.casesOn (motive := fun _ => α) (Nat.beq (j % 2) 0) (Tr.putK f r (j / 2) v fun r => k (.node a l r)) (Tr.putK f l (j / 2) v fun l => k (.node a l r)) =
          k (Bool.casesOn (motive := fun _ => Tr) (Nat.beq (j % 2) 0) (Tr.putK f r (j / 2) v fun r => .node a l r) (Tr.putK f l (j / 2) v fun l => .node a l r))
        cases Nat.beq (j % 2) 0 <;> simp only [Tr.putK_eq f]
theorem Tr.get_node (a : Value) (l r : Tr) (j : Nat) : (Tr.node a l r).get (j + 1) = if j % 2 = 0 then l.get (j / 2) else r.get (j / 2) := by
  show Bool.casesOn (motive := fun _ => Value) (Nat.beq (j % 2) 0) (r.get (j / 2)) (l.get (j / 2)) = _
  by_cases h : j % 2 = 0
  · rw [nbeq_iff.2 h, if_pos h]
  · have : Nat.beq (j % 2) 0 = false := by cases hb : Nat.beq (j % 2) 0 with | false => rfl | true => exact absurd (nbeq_iff.1 hb) h
    rw [this, if_neg h]
theorem Tr.put_succ (f : Nat) (a : Value) (l r : Tr) (j : Nat) (v : Value) : (Tr.node a l r).put (f + 1) (j + 1) v = if j % 2 = 0 then .node a (l.put f (j / 2) v) r else .node a l (r.put f (j / 2) v) := by
  show Bool.casesOn (motive := fun _ => Tr) (Nat.beq (j % 2) 0) (Tr.putK f r (j / 2) v fun r => .node a l r) (Tr.putK f l (j / 2) v fun l => .node a l r) = _
  by_cases h : j % 2 = 0
  · rw [nbeq_iff.2 h, if_pos h]; exact Tr.putK_eq f l _ v _
  · have : Nat.beq (j % 2) 0 = false := by cases hb : Nat.beq (j % 2) 0 with | false => rfl | true => exact absurd (nbeq_iff.1 hb) h
    rw [this, if_neg h]; exact Tr.putK_eq f r _ v _
theorem Tr.put_nil (f : Nat) (i : Nat) (v : Value) : Tr.nil.put (f + 1) i v = (Tr.node undef .nil .nil).put (f + 1) i v := by
  cases i with
  | zero => rfl
  | succ j =>
    rw [Tr.put_succ]
    show Bool.casesOn (motive := fun _ => Tr) (Nat.beq (j % 2) 0) (Tr.putK f .nil (j / 2) v fun r => .node undef .nil r) (Tr.putK f .nil (j / 2) v fun l => .node undef l .nil) = _
    by_cases h : j % 2 = 0
    · rw [nbeq_iff.2 h, if_pos h]; exact Tr.putK_eq f _ _ v _
    · have : Nat.beq (j % 2) 0 = false := by cases hb : Nat.beq (j % 2) 0 with | false => rfl | true => exact absurd (nbeq_iff.1 hb) h
      rw [this, if_neg h]; exact Tr.putK_eq f _ _ v _
theorem Tr.get_nil (i : Nat) : Tr.nil.get i = undef := rfl
theorem Tr.get_empty (i : Nat) : (Tr.node undef .nil .nil).get i = undef := by
  cases i with
  | zero => rfl
  | succ j => rw [Tr.get_node]; split <;> rfl
theorem Tr.get_put : ∀ (f : Nat) (t : Tr) (i : Nat) (v : Value) (j : Nat), i + 1 < 2 ^ f → (t.put f i v).get j = if i = j then v else t.get j
  | 0, t, i, v, j, h => by
    simp at h
  | f + 1, t, i, v, j, h => by
    have main : ∀ a l r, ((Tr.node a l r).put (f + 1) i v).get j = if i = j then v else (Tr.node a l r).get j := by
      intro a l r
      cases i with
      | zero => cases j with
        | zero => rfl
        | succ j => rfl
      | succ i =>
        have hlt : i / 2 + 1 < 2 ^ f := by rw [Nat.pow_succ] at h; omega
        rw [Tr.put_succ]
        cases j with
        | zero => split <;> rfl
        | succ j =>
          by_cases hi : i % 2 = 0
          · rw [if_pos hi, Tr.get_node, Tr.get_node]
            by_cases hj : j % 2 = 0
            · rw [if_pos hj, if_pos hj, Tr.get_put f l _ v _ hlt]
              by_cases he : i / 2 = j / 2
              · rw [if_pos he, if_pos (by omega)]
              · rw [if_neg he, if_neg (by omega)]
            · rw [if_neg hj, if_neg hj, if_neg (by omega)]
          · rw [if_neg hi, Tr.get_node, Tr.get_node]
            by_cases hj : j % 2 = 0
            · rw [if_pos hj, if_pos hj, if_neg (by omega)]
            · rw [if_neg hj, if_neg hj, Tr.get_put f r _ v _ hlt]
              by_cases he : i / 2 = j / 2
              · rw [if_pos he, if_pos (by omega)]
              · rw [if_neg he, if_neg (by omega)]
    cases t with
    | nil => rw [Tr.put_nil, main, Tr.get_empty, Tr.get_nil]
    | node a l r => exact main a l r

def roof : Nat := 65536
/-- Temporaries: how many, and the tree. -/
structure FT where
  size : Nat
  tr : Tr
def FT.arr (T : FT) : Array Value := ⟨(List.range (min T.size roof)).map T.tr.get⟩
def FT.put (T : FT) (d : Nat) (v : Value) : FT := bif Nat.blt d T.size && Nat.blt d roof then ⟨T.size, T.tr.put 17 d v⟩ else T
def FT.putK {α : Type} (T : FT) (d : Nat) (v : Value) (k : FT → α) : α := bif Nat.blt d T.size && Nat.blt d roof then T.tr.putK 17 d v fun t => k ⟨T.size, t⟩ else k T
theorem FT.putK_eq {α : Type} (T : FT) (d : Nat) (v : Value) (k : FT → α) : T.putK d v k = k (T.put d v) := by
  unfold FT.putK FT.put
  cases (Nat.blt d T.size && Nat.blt d roof)
  · rfl
  · simp only [cond_true]; exact Tr.putK_eq 17 _ _ _ _
theorem FT.arr_get (T : FT) (i : Nat) : T.arr[i]? = if i < min T.size roof then some (T.tr.get i) else none := by
  unfold FT.arr
  rw [List.getElem?_toArray, List.getElem?_map]
  by_cases h : i < min T.size roof
  · rw [List.getElem?_range h, if_pos h]; rfl
  · rw [List.getElem?_eq_none (by simpa using h), if_neg h]; rfl
theorem FT.arr_put (T : FT) (d : Nat) (v : Value) : (T.put d v).arr = T.arr.setIfInBounds d v := by
  apply Array.ext_getElem?
  intro i
  rw [Array.getElem?_setIfInBounds]
  have hsz : T.arr.size = min T.size roof := by simp [FT.arr]
  unfold FT.put
  cases hc : (Nat.blt d T.size && Nat.blt d roof)
  · simp only [cond_false]
    by_cases hd : d = i
    · subst hd
      have : ¬ d < min T.size roof := by
        intro h
        have h1 : Nat.blt d T.size = true := blt_iff.2 (by omega)
        have h2 : Nat.blt d roof = true := blt_iff.2 (by omega)
        rw [h1, h2] at hc; cases hc
      rw [if_pos rfl, hsz, if_neg this, FT.arr_get, if_neg this]
    · rw [if_neg hd]
  · rw [Bool.and_eq_true, blt_iff, blt_iff] at hc
    simp only [cond_true]
    rw [FT.arr_get]
    simp only
    have hlt : d < min T.size roof := by omega
    have h17 : d + 1 < 2 ^ 17 := by have := hc.2; unfold roof at this; omega
    rw [Tr.get_put 17 T.tr d v i h17]
    by_cases hd : d = i
    · subst hd; rw [if_pos rfl, if_pos rfl, hsz, if_pos hlt]
    · rw [if_neg hd, if_neg hd, FT.arr_get]
/-- The first ones are told. -/
def FT.insK {α : Type} (l : List Value) : Nat → FT → (FT → α) → α :=
  List.rec (motive := fun _ => Nat → FT → (FT → α) → α) (fun _ T k => k T) (fun v _ ih i T k => T.putK i v fun T' => ih (i + 1) T' k) l
def FT.ins : List Value → Nat → FT → FT
  | [], _, T => T
  | v :: r, i, T => FT.ins r (i + 1) (T.put i v)
theorem FT.insK_eq {α : Type} : ∀ (l : List Value) (i : Nat) (T : FT) (k : FT → α), FT.insK l i T k = k (FT.ins l i T)
  | [], _, _, _ => rfl
  | v :: r, i, T, k => by
    show T.putK i v (fun T' => FT.insK r (i + 1) T' k) = _
    rw [FT.putK_eq, FT.insK_eq r]; rfl
theorem FT.ins_arr : ∀ (l : List Value) (i : Nat) (T : FT), (FT.ins l i T).arr = wr T.arr i l
  | [], _, _ => rfl
  | v :: r, i, T => by rw [FT.ins, FT.ins_arr r, FT.arr_put, wr]
theorem wr_replicate : ∀ (l p : List Value) (m : Nat), wr ⟨p ++ List.replicate (l.length + m) undef⟩ p.length l = ⟨p ++ (l ++ List.replicate m undef)⟩
  | [], p, m => by simp [wr]
  | v :: r, p, m => by
    rw [wr]
    have e1 : (⟨p ++ List.replicate ((v :: r).length + m) undef⟩ : Array Value).setIfInBounds p.length v = ⟨(p ++ [v]) ++ List.replicate (r.length + m) undef⟩ := by
      simp only [List.setIfInBounds_toArray, List.length_cons]
      congr 1
      rw [show r.length + 1 + m = (r.length + m) + 1 by omega, List.replicate_succ, List.set_append_right _ _ (Nat.le_refl _), Nat.sub_self]
      simp
    rw [e1]
    have := wr_replicate r (p ++ [v]) m
    simp only [List.length_append, List.length_cons, List.length_nil, Nat.zero_add] at this
    rw [this]; simp
/-- What a call begins with. -/
def startK {α : Type} (args : List Value) (n : Nat) (k : FT → α) : α := FT.insK args 0 ⟨args.length + (n - args.length), .nil⟩ k
def start (args : List Value) (n : Nat) : FT := FT.ins args 0 ⟨args.length + (n - args.length), .nil⟩
theorem startK_eq {α : Type} (args : List Value) (n : Nat) (k : FT → α) : startK args n k = k (start args n) := FT.insK_eq _ _ _ _
theorem start_arr (args : List Value) (n : Nat) (h : args.length + (n - args.length) ≤ roof) : (start args n).arr = ⟨args ++ List.replicate (n - args.length) undef⟩ := by
  unfold start
  rw [FT.ins_arr]
  have e0 : (⟨args.length + (n - args.length), .nil⟩ : FT).arr = ⟨[] ++ List.replicate (args.length + (n - args.length)) undef⟩ := by
    unfold FT.arr
    simp only [List.nil_append, Nat.min_eq_left h]
    congr 1
    apply List.ext_getElem (by simp)
    intro i h1 h2
    simp [Tr.get_nil]
  rw [e0]
  have := wr_replicate args [] (n - args.length)
  simpa using this
end
end Go.Den
