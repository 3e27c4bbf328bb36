/-
  A deterministic reading of Go functions: values, renamed blocks, heaps that are known in part.
-/
import Derived.WalkKit
import Derived.Deep.MidRow
import Derived.Scope
import Derived.Orders
namespace Go.Den
open Go.RowKit

mutual
def ren (ρ : Nat → Nat) : Value → Value
  | .pointer (some a) => .pointer (some { a with block := ρ a.block })
  | .slice (some a) l c => .slice (some { a with block := ρ a.block }) l (ρ c)
  | .slice none l c => .slice none l (ρ c)
  | .map (some r) => .map (some (ρ r))
  | .chan (some r) => .chan (some (ρ r))
  | .func fn ⟨f⟩ ⟨c⟩ => .func fn ⟨renL ρ f⟩ ⟨renL ρ c⟩
  | .iface t v => .iface t (ren ρ v)
  | .agg ⟨cs⟩ => .agg ⟨renL ρ cs⟩
  | .tuple ⟨cs⟩ => .tuple ⟨renL ρ cs⟩
  | .bool b => .bool b
  | .int k n => .int k n
  | .float k b => .float k b
  | .complex k a b => .complex k a b
  | .string s => .string s
  | .pointer none => .pointer none
  | .map none => .map none
  | .chan none => .chan none
  | .nilFunc => .nilFunc
  | .nilIface => .nilIface
def renL (ρ : Nat → Nat) : List Value → List Value
  | [] => []
  | v :: r => ren ρ v :: renL ρ r
end
mutual
def bel (n : Nat) : Value → Bool
  | .pointer (some a) => Nat.blt a.block n
  | .slice (some a) _ c => Nat.blt a.block n && Nat.blt c n
  | .slice none _ c => Nat.blt c n
  | .map (some r) => Nat.blt r n
  | .chan (some r) => Nat.blt r n
  | .func _ ⟨f⟩ ⟨c⟩ => belL n f && belL n c
  | .iface _ v => bel n v
  | .agg ⟨cs⟩ => belL n cs
  | .tuple ⟨cs⟩ => belL n cs
  | .bool _ => true
  | .int _ _ => true
  | .float _ _ => true
  | .complex _ _ _ => true
  | .string _ => true
  | .pointer none => true
  | .map none => true
  | .chan none => true
  | .nilFunc => true
  | .nilIface => true
def belL (n : Nat) : List Value → Bool
  | [] => true
  | v :: r => bel n v && belL n r
end

theorem renL_eq (ρ : Nat → Nat) : ∀ l, renL ρ l = l.map (ren ρ)
  | [] => rfl
  | v :: r => by simp [renL, renL_eq ρ r]
theorem belL_eq (n : Nat) : ∀ l, belL n l = l.all (bel n)
  | [] => rfl
  | v :: r => by simp [belL, belL_eq n r]
theorem blt_iff {a b : Nat} : Nat.blt a b = true ↔ a < b := by
  unfold Nat.blt; rw [Nat.ble_eq]; exact Iff.rfl

theorem nbeq_iff {a b : Nat} : Nat.beq a b = true ↔ a = b := by rw [Nat.beq_eq]

section
variable {ρ : Nat → Nat}
theorem ren_agg (cs : Array Value) : ren ρ (.agg cs) = .agg (cs.map (ren ρ)) := by
  cases cs; simp [ren, renL_eq]
theorem ren_tuple (cs : Array Value) : ren ρ (.tuple cs) = .tuple (cs.map (ren ρ)) := by
  cases cs; simp [ren, renL_eq]
theorem ren_func (fn : Fn) (f c : Array Value) : ren ρ (.func fn f c) = .func fn (f.map (ren ρ)) (c.map (ren ρ)) := by
  cases f; cases c; simp [ren, renL_eq]
theorem bel_agg {n : Nat} {cs : Array Value} : bel n (.agg cs) = true ↔ ∀ v ∈ cs, bel n v = true := by
  cases cs; simp [bel, belL_eq]
theorem bel_tuple {n : Nat} {cs : Array Value} : bel n (.tuple cs) = true ↔ ∀ v ∈ cs, bel n v = true := by
  cases cs; simp [bel, belL_eq]
theorem bel_func {n : Nat} {fn : Fn} {f c : Array Value} : bel n (.func fn f c) = true ↔ (∀ v ∈ f, bel n v = true) ∧ ∀ v ∈ c, bel n v = true := by
  cases f; cases c; simp [bel, belL_eq]
theorem ren_undef : ren ρ undef = undef := by simp [undef, ren_tuple]
theorem bel_undef (n : Nat) : bel n undef = true := by simp [undef, bel_tuple]
end

mutual
theorem ren_agree {ρ ρ' : Nat → Nat} {n : Nat} (h : ∀ b, b < n → ρ' b = ρ b) : ∀ v, bel n v = true → ren ρ' v = ren ρ v
  | .pointer (some a), hb => by simp only [bel, blt_iff] at hb; simp [ren, h _ hb]
  | .slice (some a) l c, hb => by simp only [bel, Bool.and_eq_true, blt_iff] at hb; simp [ren, h _ hb.1, h _ hb.2]
  | .slice none l c, hb => by simp only [bel, blt_iff] at hb; simp [ren, h _ hb]
  | .map (some r), hb => by simp only [bel, blt_iff] at hb; simp [ren, h _ hb]
  | .chan (some r), hb => by simp only [bel, blt_iff] at hb; simp [ren, h _ hb]
  | .func fn ⟨f⟩ ⟨c⟩, hb => by
    simp only [bel, Bool.and_eq_true] at hb
    simp [ren, renL_agree h f hb.1, renL_agree h c hb.2]
  | .iface t v, hb => by simp only [bel] at hb; simp [ren, ren_agree h v hb]
  | .agg ⟨cs⟩, hb => by simp only [bel] at hb; simp [ren, renL_agree h cs hb]
  | .tuple ⟨cs⟩, hb => by simp only [bel] at hb; simp [ren, renL_agree h cs hb]
  | .bool b, _ => rfl
  | .int k n, _ => rfl
  | .float k b, _ => rfl
  | .complex k a b, _ => rfl
  | .string s, _ => rfl
  | .pointer none, _ => rfl
  | .map none, _ => rfl
  | .chan none, _ => rfl
  | .nilFunc, _ => rfl
  | .nilIface, _ => rfl
theorem renL_agree {ρ ρ' : Nat → Nat} {n : Nat} (h : ∀ b, b < n → ρ' b = ρ b) : ∀ l, belL n l = true → renL ρ' l = renL ρ l
  | [], _ => rfl
  | v :: r, hb => by
    simp only [belL, Bool.and_eq_true] at hb
    simp [renL, ren_agree h v hb.1, renL_agree h r hb.2]
end
mutual
theorem ren_id {n : Nat} {ρ : Nat → Nat} (h : ∀ b, b < n → ρ b = b) : ∀ v, bel n v = true → ren ρ v = v
  | .pointer (some a), hb => by simp only [bel, blt_iff] at hb; simp [ren, h _ hb]
  | .slice (some a) l c, hb => by simp only [bel, Bool.and_eq_true, blt_iff] at hb; simp [ren, h _ hb.1, h _ hb.2]
  | .slice none l c, hb => by simp only [bel, blt_iff] at hb; simp [ren, h _ hb]
  | .map (some r), hb => by simp only [bel, blt_iff] at hb; simp [ren, h _ hb]
  | .chan (some r), hb => by simp only [bel, blt_iff] at hb; simp [ren, h _ hb]
  | .func fn ⟨f⟩ ⟨c⟩, hb => by
    simp only [bel, Bool.and_eq_true] at hb
    simp [ren, renL_id h f hb.1, renL_id h c hb.2]
  | .iface t v, hb => by simp only [bel] at hb; simp [ren, ren_id h v hb]
  | .agg ⟨cs⟩, hb => by simp only [bel] at hb; simp [ren, renL_id h cs hb]
  | .tuple ⟨cs⟩, hb => by simp only [bel] at hb; simp [ren, renL_id h cs hb]
  | .bool b, _ => rfl
  | .int k n, _ => rfl
  | .float k b, _ => rfl
  | .complex k a b, _ => rfl
  | .string s, _ => rfl
  | .pointer none, _ => rfl
  | .map none, _ => rfl
  | .chan none, _ => rfl
  | .nilFunc, _ => rfl
  | .nilIface, _ => rfl
theorem renL_id {n : Nat} {ρ : Nat → Nat} (h : ∀ b, b < n → ρ b = b) : ∀ l, belL n l = true → renL ρ l = l
  | [], _ => rfl
  | v :: r, hb => by
    simp only [belL, Bool.and_eq_true] at hb
    simp [renL, ren_id h v hb.1, renL_id h r hb.2]
end
mutual
theorem bel_mono {n m : Nat} (h : n ≤ m) : ∀ v, bel n v = true → bel m v = true
  | .pointer (some a), hb => by simp only [bel, blt_iff] at hb ⊢; omega
  | .slice (some a) l c, hb => by simp only [bel, Bool.and_eq_true, blt_iff] at hb ⊢; omega
  | .slice none l c, hb => by simp only [bel, blt_iff] at hb ⊢; omega
  | .map (some r), hb => by simp only [bel, blt_iff] at hb ⊢; omega
  | .chan (some r), hb => by simp only [bel, blt_iff] at hb ⊢; omega
  | .func fn ⟨f⟩ ⟨c⟩, hb => by
    simp only [bel, Bool.and_eq_true] at hb ⊢
    exact ⟨belL_mono h f hb.1, belL_mono h c hb.2⟩
  | .iface t v, hb => by simp only [bel] at hb ⊢; exact bel_mono h v hb
  | .agg ⟨cs⟩, hb => by simp only [bel] at hb ⊢; exact belL_mono h cs hb
  | .tuple ⟨cs⟩, hb => by simp only [bel] at hb ⊢; exact belL_mono h cs hb
  | .bool b, _ => rfl
  | .int k n, _ => rfl
  | .float k b, _ => rfl
  | .complex k a b, _ => rfl
  | .string s, _ => rfl
  | .pointer none, _ => rfl
  | .map none, _ => rfl
  | .chan none, _ => rfl
  | .nilFunc, _ => rfl
  | .nilIface, _ => rfl
theorem belL_mono {n m : Nat} (h : n ≤ m) : ∀ l, belL n l = true → belL m l = true
  | [], _ => rfl
  | v :: r, hb => by
    simp only [belL, Bool.and_eq_true] at hb ⊢
    exact ⟨bel_mono h v hb.1, belL_mono h r hb.2⟩
end
theorem ren_oneCell {ρ : Nat → Nat} (v : Value) : (ren ρ v).oneCell' = v.oneCell' := by
  cases v <;> first
    | rfl
    | (rename_i a b; cases a <;> rfl)
    | (rename_i a b c; cases a <;> rfl)
    | (rename_i a; cases a <;> rfl)
    | (rename_i a b c; cases b; cases c; rfl)
theorem ren_cells {ρ : Nat → Nat} (v : Value) : (ren ρ v).cells = v.cells.map (ren ρ) := by
  cases v with
  | agg cs => rw [ren_agg]; rfl
  | tuple cs => rw [ren_tuple]; simp [Value.cells, ren_tuple]
  | func fn f c => rw [ren_func]; simp [Value.cells, ren_func]
  | pointer a => cases a <;> simp [Value.cells, ren]
  | slice a l c => cases a <;> simp [Value.cells, ren]
  | map r => cases r <;> simp [Value.cells, ren]
  | chan r => cases r <;> simp [Value.cells, ren]
  | _ => simp [Value.cells, ren]
theorem bel_cells {n : Nat} {v : Value} (h : bel n v = true) : ∀ x ∈ v.cells, bel n x = true := by
  cases v with
  | agg cs => exact bel_agg.1 h
  | _ => intro x hx; simp only [Value.cells, List.mem_toArray, List.mem_singleton] at hx; subst hx; exact h

/-! ### Rows, by lists (quick for the kernel), and what they are -/
noncomputable def getL (l : List Value) : Nat → Option Value :=
  List.rec (motive := fun _ => Nat → Option Value) (fun _ => none) (fun v _ ih n => Nat.casesOn (motive := fun _ => Option Value) n (some v) ih) l
noncomputable def setL (l : List Value) : Nat → Value → List Value :=
  List.rec (motive := fun _ => Nat → Value → List Value) (fun _ _ => []) (fun x r ih n v => Nat.casesOn (motive := fun _ => List Value) n (v :: r) (fun m => x :: ih m v)) l
noncomputable def dropL (l : List Value) : Nat → List Value :=
  List.rec (motive := fun _ => Nat → List Value) (fun _ => []) (fun x r ih n => Nat.casesOn (motive := fun _ => List Value) n (x :: r) ih) l
noncomputable def takeL (l : List Value) : Nat → List Value :=
  List.rec (motive := fun _ => Nat → List Value) (fun _ => []) (fun x _ ih n => Nat.casesOn (motive := fun _ => List Value) n [] (fun m => x :: ih m)) l
noncomputable def allV (f : Value → Bool) (l : List Value) : Bool :=
  List.rec (motive := fun _ => Bool) true (fun v _ ih => Bool.casesOn (motive := fun _ => Bool) (f v) false ih) l
theorem getL_eq : ∀ (l : List Value) (i : Nat), getL l i = l[i]?
  | [], _ => by simp [getL]
  | _ :: _, 0 => rfl
  | _ :: r, i + 1 => by
    show getL r i = _
    simp [getL_eq r i]
theorem setL_eq : ∀ (l : List Value) (i : Nat) (v : Value), setL l i v = l.set i v
  | [], _, _ => rfl
  | _ :: _, 0, _ => rfl
  | x :: r, i + 1, v => by
    show x :: setL r i v = _
    simp [setL_eq r i]
theorem dropL_eq : ∀ (l : List Value) (i : Nat), dropL l i = l.drop i
  | [], _ => by simp [dropL]
  | _ :: _, 0 => rfl
  | _ :: r, i + 1 => by
    show dropL r i = _
    simp [dropL_eq r i]
theorem takeL_eq : ∀ (l : List Value) (i : Nat), takeL l i = l.take i
  | [], _ => by simp [takeL]
  | _ :: _, 0 => rfl
  | x :: r, i + 1 => by
    show x :: takeL r i = _
    simp [takeL_eq r i]
theorem allV_eq (f : Value → Bool) : ∀ l, allV f l = l.all f
  | [] => rfl
  | v :: r => by
    show Bool.casesOn (motive := fun _ => Bool) (f v) false (allV f r) = _
    rw [allV_eq f r]
    cases h : f v <;> simp [h]
noncomputable def fget (cs : Array Value) (i : Nat) : Option Value := getL cs.toList i
noncomputable def fset (cs : Array Value) (i : Nat) (v : Value) : Array Value := ⟨setL cs.toList i v⟩
noncomputable def fext (cs : Array Value) (a b : Nat) : Array Value := bif Nat.beq a 0 && Nat.beq b cs.toList.length then cs else ⟨takeL (dropL cs.toList a) (b - a)⟩
def fapp (a b : Array Value) : Array Value := ⟨a.toList ++ b.toList⟩
noncomputable def fall (p : Value → Bool) (cs : Array Value) : Bool := allV p cs.toList
theorem fget_eq (cs : Array Value) (i : Nat) : fget cs i = cs[i]? := by cases cs; simp [fget, getL_eq]
theorem fset_eq (cs : Array Value) (i : Nat) (v : Value) : fset cs i v = cs.setIfInBounds i v := by cases cs; simp [fset, setL_eq]
theorem fext_eq (cs : Array Value) (a b : Nat) : fext cs a b = cs.extract a b := by
  unfold fext
  cases h : (Nat.beq a 0 && Nat.beq b cs.toList.length)
  · cases cs; simp [takeL_eq, dropL_eq]
  · rw [Bool.and_eq_true, Nat.beq_eq, Nat.beq_eq] at h
    obtain ⟨rfl, rfl⟩ := h
    simp
theorem fapp_eq (a b : Array Value) : fapp a b = a ++ b := by cases a; cases b; simp [fapp]
theorem fall_eq (p : Value → Bool) (cs : Array Value) : fall p cs = cs.all p := by cases cs; simp [fall, allV_eq]

/-! ### Values made plain for the kernel -/
def forceN {α : Type} (n : Nat) (c : Nat → α) : α :=
  match n with
  | 0 => c 0
  | p + 1 => c (p + 1)
def forceI {α : Type} (n : Int) (c : Int → α) : α :=
  match n with
  | .ofNat m => forceN m fun m => c (.ofNat m)
  | .negSucc m => forceN m fun m => c (.negSucc m)
def forceV {α : Type} (v : Value) (c : Value → α) : α :=
  match v with
  | .int k n => forceI n fun n => c (.int k n)
  | .bool true => c (.bool true)
  | .bool false => c (.bool false)
  | .pointer (some ⟨b, o, s⟩) => forceN b fun b => forceN o fun o => c (.pointer (some ⟨b, o, s⟩))
  | .slice (some ⟨b, o, s⟩) l k => forceN b fun b => forceN o fun o => forceN l fun l => forceN k fun k => c (.slice (some ⟨b, o, s⟩) l k)
  | v => c v
noncomputable def forceL {α : Type} (l : List Value) : (List Value → α) → α :=
  List.rec (motive := fun _ => (List Value → α) → α) (fun c => c []) (fun v _ ih c => ih fun r => c (v :: r)) l
/-- The spine of a row, and its values, made plain. -/
noncomputable def forceD {α : Type} (l : List Value) : (List Value → α) → α :=
  List.rec (motive := fun _ => (List Value → α) → α) (fun c => c []) (fun v _ ih c => forceV v fun v => ih fun r => c (v :: r)) l
theorem forceN_eq {α : Type} (n : Nat) (c : Nat → α) : forceN n c = c n := by cases n <;> rfl
theorem forceI_eq {α : Type} (n : Int) (c : Int → α) : forceI n c = c n := by cases n <;> simp [forceI, forceN_eq]
theorem forceV_eq {α : Type} (v : Value) (c : Value → α) : forceV v c = c v := by
  unfold forceV; split <;> simp [forceI_eq, forceN_eq]
theorem forceL_eq {α : Type} : ∀ (l : List Value) (c : List Value → α), forceL l c = c l
  | [], _ => rfl
  | v :: r, c => by
    show forceL r (fun r => c (v :: r)) = _
    rw [forceL_eq r]
theorem forceD_eq {α : Type} : ∀ (l : List Value) (c : List Value → α), forceD l c = c l
  | [], _ => rfl
  | v :: r, c => by
    show forceV v (fun v => forceD r fun r => c (v :: r)) = _
    rw [forceV_eq, forceD_eq r]
/-- A value made plain, where that is asked. -/
noncomputable def plainV {α : Type} (fr : Bool) (v : Value) (c : Value → α) : α :=
  bif fr then
    match v with
    | .agg ⟨cs⟩ => forceD cs fun cs => c (.agg ⟨cs⟩)
    | .tuple ⟨cs⟩ => forceD cs fun cs => c (.tuple ⟨cs⟩)
    | v => forceV v c
  else c v
theorem plainV_eq {α : Type} (fr : Bool) (v : Value) (c : Value → α) : plainV fr v c = c v := by
  cases fr
  · rfl
  · simp only [plainV, cond_true]
    split
    · exact forceD_eq _ _
    · exact forceD_eq _ _
    · exact forceV_eq _ _
noncomputable def plainT {α : Type} (fr : Bool) (t : Array Value) (c : Array Value → α) : α :=
  bif fr then forceL t.toList fun l => c ⟨l⟩ else c t
theorem plainT_eq {α : Type} (fr : Bool) (t : Array Value) (c : Array Value → α) : plainT fr t c = c t := by
  cases fr
  · rfl
  · simp only [plainT, cond_true, forceL_eq]
/-- 'bel', quick at plain values. -/
noncomputable def belS (n : Nat) (v : Value) : Bool :=
  match v with
  | .int _ _ => true
  | .bool _ => true
  | v => bel n v
noncomputable def belF (n : Nat) (v : Value) : Bool :=
  match v with
  | .int _ _ => true
  | .bool _ => true
  | .agg ⟨cs⟩ => allV (belS n) cs
  | .tuple ⟨cs⟩ => allV (belS n) cs
  | v => bel n v
theorem belS_eq (n : Nat) (v : Value) : belS n v = bel n v := by
  cases v <;> rfl
theorem belF_eq (n : Nat) (v : Value) : belF n v = bel n v := by
  have hS : (belS n) = bel n := funext (belS_eq n)
  cases v with
  | agg cs => cases cs; simp only [belF, hS, bel, belL_eq, allV_eq]
  | tuple cs => cases cs; simp only [belF, hS, bel, belL_eq, allV_eq]
  | _ => rfl
theorem belF_fun (n : Nat) : belF n = bel n := funext (belF_eq n)
end Go.Den
