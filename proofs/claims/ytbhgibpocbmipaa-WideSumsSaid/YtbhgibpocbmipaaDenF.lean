/-
  Code, read deterministically: what must hold of what it comes to.
-/
import Derived.Test.YtbhgibpocbmipaaDenT
namespace Go.Den
open Go.RowKit
noncomputable section

/-- What a reading comes to: an outcome, or a parting of the ways at a bool. -/
inductive Tree (α : Type) where
  | leaf (a : α)
  | br (b : Bool) (t f : Tree α)
  | fail
noncomputable def Tree.bind {α β : Type} (t : Tree α) (k : α → Tree β) : Tree β :=
  Tree.rec (motive := fun _ => Tree β) k (fun b _ _ iht ihf => .br b iht ihf) .fail t
noncomputable def Tree.run {α : Type} (t : Tree α) : Option α :=
  Tree.rec (motive := fun _ => Option α) (fun a => some a) (fun b _ _ iht ihf => Bool.casesOn (motive := fun _ => Option α) b ihf iht) none t
def bcase (b : Bool) (p q : Prop) : Prop :=
  match b with
  | true => p
  | false => q
def Tree.holds {α : Type} (Q : α → Prop) : Tree α → Prop
  | .leaf a => Q a
  | .br b t f => bcase b (t.holds Q) (f.holds Q)
  | .fail => False
theorem Tree.run_bind {α β : Type} (t : Tree α) (k : α → Tree β) : (t.bind k).run = t.run.bind fun a => (k a).run := by
  induction t with
  | leaf a => rfl
  | br b t f iht ihf =>
    cases b
    · exact ihf
    · exact iht
  | fail => rfl
theorem Tree.holds_out {α : Type} {Q : α → Prop} {t : Tree α} (h : t.holds Q) : ∃ a, t.run = some a ∧ Q a := by
  induction t with
  | leaf a => exact ⟨a, rfl, h⟩
  | br b t f iht ihf =>
    cases b
    · exact ihf h
    · exact iht h
  | fail => exact h.elim
theorem Tree.holds_in {α : Type} {Q : α → Prop} {t : Tree α} {a : α} (h : t.run = some a) (hq : Q a) : t.holds Q := by
  induction t with
  | leaf b => cases h; exact hq
  | br b t f iht ihf =>
    cases b
    · exact ihf h
    · exact iht h
  | fail => cases h
theorem Tree.run_br {α : Type} {b : Bool} {t f : Tree α} {a : α} (h : (Tree.br b t f).run = some a) : (b = true ∧ t.run = some a) ∨ (b = false ∧ f.run = some a) := by
  cases b
  · exact .inr ⟨rfl, h⟩
  · exact .inl ⟨rfl, h⟩
theorem Tree.run_guard {α : Type} {b : Bool} {t : Tree α} {a : α} (h : (Tree.br b t .fail).run = some a) : b = true ∧ t.run = some a := by
  rcases Tree.run_br h with h | ⟨_, h⟩
  · exact h
  · cases h
/-- A parting of the ways; where all is plain it is gone at once. -/
def brF {α : Type} (fr b : Bool) (t f : Tree α) : Tree α := bif fr then (bif b then t else f) else .br b t f
theorem run_brF {α : Type} {fr b : Bool} {t f : Tree α} {a : α} (h : (brF fr b t f).run = some a) : (b = true ∧ t.run = some a) ∨ (b = false ∧ f.run = some a) := by
  cases fr
  · exact Tree.run_br h
  · cases b
    · exact .inr ⟨rfl, h⟩
    · exact .inl ⟨rfl, h⟩
theorem run_guardF {α : Type} {fr b : Bool} {t : Tree α} {a : α} (h : (brF fr b t .fail).run = some a) : b = true ∧ t.run = some a := by
  rcases run_brF h with h | ⟨_, h⟩
  · exact h
  · cases h
/-- A bool that is a letter: both ways. -/
def splitV {α : Type} (v : Value) (c : Value → Tree α) : Tree α :=
  match v with
  | .bool b => .br b (c (.bool true)) (c (.bool false))
  | v => c v
/-- A value made plain: numbers where all is plain, else bools by parting the ways. -/
def normV {α : Type} (fr : Bool) (v : Value) (c : Value → Tree α) : Tree α := bif fr then plainV true v c else splitV v c
theorem normV_run {α : Type} (fr : Bool) (v : Value) (c : Value → Tree α) : (normV fr v c).run = (c v).run := by
  cases fr
  · simp only [normV, cond_false, splitV]
    split
    · rename_i b; cases b <;> rfl
    · rfl
  · simp only [normV, cond_true, plainV_eq]
theorem Tree.run_bind_out {α β : Type} {t : Tree α} {k : α → Tree β} {b : β} (h : (t.bind k).run = some b) : ∃ a, t.run = some a ∧ (k a).run = some b := by
  rw [Tree.run_bind] at h
  cases ht : t.run with
  | none => rw [ht] at h; cases h
  | some a => rw [ht] at h; exact ⟨a, rfl, h⟩

structure St where
  tmps : FT
  h : AHeap
  nx : Nat
/-- What a call, or an operation, comes to: its value, the heap, the next name. -/
structure VR where
  v : Value
  h : AHeap
  nx : Nat
def SWf (t : Array Value) (nx : Nat) : Prop := ∀ v ∈ t, bel nx v = true
def actOf (ρ : Nat → Nat) (t : Array Value) : Act := ⟨t.map (ren ρ), []⟩

/-- What a piece of code must come to. -/
def Post (g : AHeap) (x : Exit) (st' : St) (ρ : Nat → Nat) (h : AHeap) (nx : Nat) (w : World) : Exit → Act → World → Prop := fun e a' w' =>
  e = x ∧ ∃ ρ', a' = actOf ρ' st'.tmps.arr ∧ SWf st'.tmps.arr st'.nx ∧ Rel ρ' g st'.h st'.nx w' ∧ Step ρ h nx w ρ' st'.h st'.nx w'
def SatCall (P : Program) (g : AHeap) (f : FuncId) (args : Array Value) (h : AHeap) (nx : Nat) (r : VR) : Prop :=
  ∀ ρ w, Rel ρ g h nx w → SWf args nx → Calls P f (args.map (ren ρ)) w fun e w' =>
    ∃ ρ', e = .returned (ren ρ' r.v) ∧ bel r.nx r.v = true ∧ Rel ρ' g r.h r.nx w' ∧ Step ρ h nx w ρ' r.h r.nx w'

structure Env (P : Program) where
  /-- Are numbers made plain on the way? (For closed runs: the kernel is quicker so; where numbers are letters it would stand still.) -/
  frc : Bool
  so : TypeId → Bool
  hso : ∀ t, so t = true → P.stoodInHeld t = false ∧ P.eqGuardType P.depth t = false
  hmix : P.follows .mixedOrders = true
  hng : ∀ (f : Nat) fn, P.funcs[f]? = some fn → (fn.name == "runtime.NumGoroutine") = false
  ext : FuncId → Array Value → Option (Bool × Value)
  hext : ∀ f args r, ext f args = some r → r.1 = true → bel B0 r.2 = true ∧ ∀ w, (callFunc f args).run P w = .ok (.value r.2) w
  orc : AHeap → FuncId → Array Value → AHeap → Nat → Option (Tree VR)
  horc : ∀ g f args h nx t r, orc g f args h nx = some t → t.run = some r → SatCall P g f args h nx r ∧ (P.funcs[f]?.bind (·.body)).isSome = true

/-- How calls, and code, are read one step deeper. -/
structure Ev where
  code : AHeap → Code → St → Tree (Exit × St)
  call : AHeap → FuncId → Array Value → AHeap → Nat → Tree VR

/-- An operand's value. -/
def evF (t : FT) (x : Operand) : Value :=
  match x with
  | .tmp i => bif Nat.blt i t.size && Nat.blt i roof then t.tr.get i else undef
  | .const v => v
  | .global g => .pointer (some ⟨g, 0, none⟩)
  | .func f => .func (.func f) #[] #[]
theorem evF_eq (t : FT) : evF t = (⟨t.arr, []⟩ : Act).eval := by
  funext x
  cases x with
  | tmp i =>
    simp only [evF, Act.eval, Array.getD_eq_getD_getElem?, FT.arr_get]
    cases hc : (Nat.blt i t.size && Nat.blt i roof)
    · have : ¬ i < min t.size roof := by
        intro h
        have h1 : Nat.blt i t.size = true := blt_iff.2 (Nat.lt_min.1 h).1
        have h2 : Nat.blt i roof = true := blt_iff.2 (Nat.lt_min.1 h).2
        rw [h1, h2] at hc; cases hc
      rw [if_neg this]; rfl
    · rw [Bool.and_eq_true, blt_iff, blt_iff] at hc
      rw [if_pos (Nat.lt_min.2 hc)]; rfl
  | _ => rfl
def putT (t : Array Value) (d : Option Tmp) (v : Value) : Array Value :=
  match d with
  | some d => t.setIfInBounds d v
  | none => t
def putF (t : FT) (d : Option Tmp) (v : Value) : FT :=
  match d with
  | some d => t.put d v
  | none => t
def putFK {α : Type} (t : FT) (d : Option Tmp) (v : Value) (k : FT → α) : α :=
  match d with
  | some d => t.putK d v k
  | none => k t
theorem putFK_eq {α : Type} (t : FT) (d : Option Tmp) (v : Value) (k : FT → α) : putFK t d v k = k (putF t d v) := by
  cases d
  · rfl
  · exact FT.putK_eq _ _ _ _
theorem putF_arr (t : FT) (d : Option Tmp) (v : Value) : (putF t d v).arr = putT t.arr d v := by
  cases d
  · rfl
  · exact FT.arr_put _ _ _

section
variable {P : Program} (E : Env P) (e : Ev)

def callR (g : AHeap) (f : FuncId) (args : Array Value) (h : AHeap) (nx : Nat) : Tree VR :=
  match E.orc g f args h nx with
  | some p => p
  | none => e.call g f args h nx
/-- A call of values without addresses, which is read in a heap of its own; what it adds to the heap. -/
def callL (g : AHeap) (f : FuncId) (args : Array Value) (nx : Nat) : Tree VR :=
  match E.ext f args with
  | some r => brF E.frc r.1 (.leaf ⟨r.2, [], nx⟩) .fail
  | none => (callR E e g f args [] nx).bind fun r => .leaf (bif belF B0 r.v then ⟨r.v, [], nx⟩ else r)
def callF (g : AHeap) (f : FuncId) (args : Array Value) (h : AHeap) (nx : Nat) : Tree VR :=
  bif fall (belF B0) args then (callL E e g f args nx).bind fun r => .leaf ⟨r.v, r.h ++ h, r.nx⟩
  else callR E e g f args h nx
def builtinA (P : Program) (b : Builtin) (ts : List TypeId) (args : List Value) : Option Value :=
  match b with
  | .len => match ts, args with
    | t :: _, x :: _ => match P.underlying t, x with
      | some .string, .string s => some (.int .i64 s.size)
      | some (.array n _), _ => some (.int .i64 n)
      | some (.slice _), .slice _ n _ => some (.int .i64 n)
      | _, _ => none
    | _, _ => none
  | .min => match args with
    | [.int k x, .int _ y] => some (.int k (if y < x then y else x))
    | _ => none
  | .max => match args with
    | [.int k x, .int _ y] => some (.int k (if y > x then y else x))
    | _ => none
  | _ => none
def opndsOk (c : Call) : Bool := (match c.callee with | .value f => opndOk f | .invoke r _ => opndOk r | .builtin _ => true) && c.args.toList.all opndOk
theorem opndsOk_eq (c : Call) : opndsOk c = true ↔ ∀ x ∈ c.operands, opndOk x = true := by
  obtain ⟨cl, ⟨as⟩, ts⟩ := c
  cases cl <;> simp [opndsOk, Call.operands, List.all_eq_true]
/-- An operation that is a call, its operands told. -/
def callK (c : Call) (t : FT) (h : AHeap) (nx : Nat) (k : FuncId → Array Value → Tree VR) : Tree VR :=
  bif opndsOk c then
    match c.callee with
    | .value f => match evF t f with
      | .func (.func fid) first cap => k fid ⟨first.toList ++ (c.args.toList.map (evF t) ++ cap.toList)⟩
      | _ => .fail
    | .builtin b => match builtinA P b c.argTypes.toList (c.args.toList.map (evF t)) with
      | some v => .leaf ⟨v, h, nx⟩
      | none => .fail
    | .invoke _ _ => .fail
  else .fail
def storeT (o : Oper) (ty : TypeId) (a : Addr) (v : Value) (h : AHeap) (nx : Nat) : Tree VR :=
  bif o.op.operands.toList.all opndOk then
    match a.spot, h.get a.block, sizeO P ty with
    | none, some B, some n =>
      bif Nat.beq v.cells.size n && Nat.ble (a.off + n) B.cells.size && fall (·.oneCell') v.cells then
        plainT E.frc ⟨wrF B.cells.toList a.off v.cells.toList⟩ fun cs => plainH E.frc (h.set a.block { B with cells := cs }) fun h' => .leaf ⟨undef, h', nx⟩
      else .fail
    | _, _, _ => .fail
  else .fail
def storeOf (op : Op) : Option (TypeId × Operand × Operand) :=
  match op with
  | .store ty x y => some (ty, x, y)
  | _ => none
def callOf (op : Op) : Option Call :=
  match op with
  | .call c => some c
  | _ => none
theorem storeOf_eq {op : Op} {q : TypeId × Operand × Operand} (h : storeOf op = some q) : op = .store q.1 q.2.1 q.2.2 := by
  cases op <;> simp only [storeOf] at h <;> cases h; rfl
theorem callOf_eq {op : Op} {c : Call} (h : callOf op = some c) : op = .call c := by
  cases op <;> simp only [callOf] at h <;> cases h; rfl
def aopP (g : AHeap) (o : Oper) (t : FT) (h : AHeap) (nx : Nat) : Tree VR :=
  match (hdl P E.so o).run g (evF t) h nx with
  | some r => brF E.frc r.ok (normV E.frc r.v fun v => .leaf ⟨v, r.h, r.nx⟩) .fail
  | none => .fail
def aopT (g : AHeap) (o : Oper) (t : FT) (h : AHeap) (nx : Nat) : Tree VR :=
  match storeOf o.op with
  | some q => match evF t q.2.1 with
    | .pointer (some a) => storeT E o q.1 a (evF t q.2.2) h nx
    | _ => .fail
  | none => aopP E g o t h nx
def opT (g : AHeap) (o : Oper) (t : FT) (h : AHeap) (nx : Nat) : Tree VR :=
  match callOf o.op with
  | some c => callK (P := P) c t h nx fun f args => callF E e g f args h nx
  | none => aopT E g o t h nx
def wantedA (ops : Array Oper) (o : Oper) (t : Array Value) : Bool :=
  match o.guard with
  | none => true
  | some (j, want) => match yielded ops t j with
    | some b => bif want then b else !b
    | none => false
def wantedF (ops : List Oper) (o : Oper) (t : FT) : Bool :=
  match o.guard with
  | none => true
  | some (j, want) => match ops[j]? with
    | some p => match p.dst with
      | some d => match evF t (.tmp d) with
        | .bool b => bif want then b else !b
        | _ => false
      | none => false
    | none => false
theorem wantedF_eq (ops : List Oper) (o : Oper) (t : FT) : wantedF ops o t = wantedA ops.toArray o t.arr := by
  unfold wantedF wantedA
  cases o.guard with
  | none => rfl
  | some jw =>
    obtain ⟨j, want⟩ := jw
    simp only [yielded, List.getElem?_toArray, evF_eq, Act.eval, Array.getD_eq_getD_getElem?]
    cases ops[j]? with
    | none => rfl
    | some p =>
      cases hd : p.dst with
      | none => simp [hd]
      | some d =>
        simp only [Option.bind_some, hd]
        cases t.arr[d]? with
        | none => rfl
        | some v => cases v <;> rfl
def seqGo (g : AHeap) (o : Oper) (t : FT) (h : AHeap) (nx : Nat) (k : FT → AHeap → Nat → Tree St) : Tree St :=
  (opT E e g o t h nx).bind fun x => putFK t o.dst x.v fun t' => k t' x.h x.nx
def seqOne (g : AHeap) (ops : List Oper) (o : Oper) (t : FT) (h : AHeap) (nx : Nat) (k : FT → AHeap → Nat → Tree St) : Tree St :=
  match o.guard with
  | none => seqGo E e g o t h nx k
  | some _ => brF E.frc (wantedF ops o t) (seqGo E e g o t h nx k) (putFK t o.dst undef fun t' => k t' h nx)
def seqT (g : AHeap) (ops : List Oper) (l : List Oper) : FT → AHeap → Nat → Tree St :=
  List.rec (motive := fun _ => FT → AHeap → Nat → Tree St) (fun t h nx => .leaf ⟨t, h, nx⟩) (fun o _ ih t h nx => seqOne E e g ops o t h nx ih) l
end

section
variable {P : Program} {E : Env P} {e : Ev} {ρ : Nat → Nat} {g h : AHeap} {nx : Nat} {w : World}
theorem actOf_eval (R : Rel ρ g h nx w) {t : Array Value} {x : Operand} (hx : opndOk x = true) : (actOf ρ t).eval x = ren ρ ((⟨t, []⟩ : Act).eval x) := by
  cases x with
  | tmp i =>
    simp only [actOf, Act.eval]
    by_cases hi : i < t.size
    · simp [hi]
    · simp [hi, ren_undef]
  | const v => simp only [Act.eval]; exact (ren_low R (by rw [← belF_eq]; exact hx)).symm
  | global i => simp only [opndOk, blt_iff] at hx; simp [Act.eval, ren, R.low i hx]
  | func f => simp [Act.eval, ren_func]
theorem eval_bel (R : Rel ρ g h nx w) {t : Array Value} (ht : SWf t nx) {x : Operand} (hx : opndOk x = true) : bel nx ((⟨t, []⟩ : Act).eval x) = true := by
  cases x with
  | tmp i =>
    simp only [Act.eval]
    by_cases hi : i < t.size
    · simpa [hi] using ht _ (Array.getElem_mem hi)
    · simp [hi, bel_undef]
  | const v => exact bel_low R (by rw [← belF_eq]; exact hx)
  | global i =>
    simp only [opndOk, blt_iff] at hx
    have := R.base
    simp only [Act.eval, bel, blt_iff]; omega
  | func f => simp [Act.eval, bel_func]
theorem actOf_put {t : Array Value} {d : Option Tmp} {v : Value} : (actOf ρ t).put d (ren ρ v) = actOf ρ (putT t d v) := by
  cases d with
  | none => rfl
  | some d => simp [actOf, putT, Act.put, Array.map_setIfInBounds]
theorem SWf.put {t : Array Value} {d : Option Tmp} {v : Value} (ht : SWf t nx) (hv : bel nx v = true) : SWf (putT t d v) nx := by
  cases d with
  | none => exact ht
  | some d =>
    intro x hx
    rcases Array.mem_or_eq_of_mem_setIfInBounds hx with h1 | h1
    · exact ht x h1
    · rw [h1]; exact hv
theorem SWf.mono {t : Array Value} {m : Nat} (ht : SWf t nx) (hm : nx ≤ m) : SWf t m := fun v hv => bel_mono hm v (ht v hv)
theorem actOf_agree {ρ' : Nat → Nat} {t : Array Value} (ht : SWf t nx) (ha : ∀ b, b < nx → ρ' b = ρ b) : actOf ρ' t = actOf ρ t := by
  unfold actOf; rw [Array.map_congr_left fun v hv => ren_agree ha v (ht v hv)]
theorem map_agree {ρ' : Nat → Nat} {t : Array Value} (ht : SWf t nx) (ha : ∀ b, b < nx → ρ' b = ρ b) : t.map (ren ρ') = t.map (ren ρ) :=
  Array.map_congr_left fun v hv => ren_agree ha v (ht v hv)

/-- An operation does what is read; its operands are told by c, which is as e is. -/
def OpSat (P : Program) (o : Oper) (g : AHeap) (t : Array Value) (h : AHeap) (nx : Nat) (r : VR) : Prop :=
  ∀ ρ w, Rel ρ g h nx w → (∀ x ∈ o.op.operands, opndOk x = true → bel nx ((⟨t, []⟩ : Act).eval x) = true) → ∀ (a : Act) (next : Act → World → Prop) (Q : Exit → Act → World → Prop), (∀ x ∈ o.op.operands, a.eval x = (actOf ρ t).eval x) →
    (∀ ρ' w', bel r.nx r.v = true → Rel ρ' g r.h r.nx w' → Step ρ h nx w ρ' r.h r.nx w' → next (a.put o.dst (ren ρ' r.v)) w') →
    o.wp P a w next Q

theorem run_callFunc_body {f : FuncId} {fn : Func} (hf : P.funcs[f]? = some fn) (hn : (fn.name == "runtime.NumGoroutine") = false) (hb : fn.body.isSome = true) (args : Array Value) (w : World) :
    (callFunc f args).run P w = .ok (.enter f args) w := by
  have h1 : fn.name ≠ "runtime.NumGoroutine" := by simpa using hn
  have h2 : ¬ fn.body = none := by intro hfb; rw [hfb] at hb; cases hb
  simp [callFunc, hf, h1, h2]

theorem run_call_value {o : Oper} {c : Call} {f : Operand} {fid : FuncId} {first cap : Array Value} {ev : Operand → Value} (ho : o.op = .call c) (hc : c.callee = .value f) (hf : ev f = .func (.func fid) first cap) (w : World) :
    (execOp ev o).run P w = (callFunc fid (first ++ c.args.map ev ++ cap)).run P w := by
  simp [execOp, ho, resolve, hc, hf, Deferred.ofValue, invoke]

theorem run_builtinA {b : Builtin} {ts : Array TypeId} {args : Array Value} {v : Value} (hb : builtinA P b ts.toList args.toList = some v) (ty : TypeId) (cs : Array Bool) (ρ : Nat → Nat) (w : World) :
    (builtin b ts ty cs (args.map (ren ρ))).run P w = .ok (.value v) w ∧ ren ρ v = v ∧ ∀ n, bel n v = true := by
  obtain ⟨ts⟩ := ts
  obtain ⟨args⟩ := args
  simp only at hb
  unfold builtinA at hb
  split at hb
  · split at hb
    · rename_i t _ x _
      split at hb
      · rename_i s hu
        cases hb; refine ⟨?_, rfl, fun _ => rfl⟩
        simp [builtin, Builtin.len_, ren, run_underlying hu, goInt]
      · rename_i n el hu
        cases hb; refine ⟨?_, rfl, fun _ => rfl⟩
        simp [builtin, Builtin.len_, run_underlying hu, goInt]
      · rename_i el a n q hu
        cases hb; refine ⟨?_, rfl, fun _ => rfl⟩
        cases a <;> simp [builtin, Builtin.len_, ren, run_underlying hu, goInt]
      · cases hb
    · cases hb
  · split at hb
    · rename_i k x k' y
      cases hb; refine ⟨?_, rfl, fun _ => rfl⟩
      simp [builtin, Builtin.min_, ren, Builtin.min2]
    · cases hb
  · split at hb
    · rename_i k x k' y
      cases hb; refine ⟨?_, rfl, fun _ => rfl⟩
      simp [builtin, Builtin.max_, ren, Builtin.max2]
    · cases hb
  · cases hb
end
end
end Go.Den
