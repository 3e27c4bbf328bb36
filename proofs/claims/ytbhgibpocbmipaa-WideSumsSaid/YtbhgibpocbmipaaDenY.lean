/-
  Contracts as oracles of a reading; what must hold, as one proposition.
-/
import Derived.Test.YtbhgibpocbmipaaDenX
namespace Go.Den
open Go.RowKit
noncomputable section

theorem holds_leaf {α : Type} {Q : α → Prop} {a : α} : (Tree.leaf a).holds Q = Q a := rfl
theorem bcase_t {p q : Prop} : bcase true p q = p := rfl
theorem bcase_in {b : Bool} {p q : Prop} (hp : b = true → p) (hq : b = false → q) : bcase b p q := by
  cases b
  · exact hq rfl
  · exact hp rfl
theorem all_bel {n : Nat} {l : List Value} (h : belL n l = true) : (⟨l⟩ : Array Value).all (bel n) = true := by
  rw [belL_eq] at h; simpa using h
/-- The same contract for every call of a function whose arguments are as told: nothing old turns. -/
structure PC (P : Program) where
  f : FuncId
  spec : Array Value → Option (Bool × Value)
  body : (P.funcs[f]?.bind (·.body)).isSome = true
  ok : ∀ args r, spec args = some r → r.1 = true → args.all (bel B0) = true ∧ bel B0 r.2 = true ∧ ∀ w, Calls P f args w fun e w' => e = .returned r.2 ∧ Below w.heap.size w w'
def orcOf {P : Program} : List (PC P) → FuncId → Array Value → AHeap → Nat → Option (Tree VR)
  | [], _, _, _, _ => none
  | c :: r, f, args, h, nx => bif Nat.beq c.f f then
      match c.spec args with
      | some q => some (.br q.1 (.leaf ⟨q.2, h, nx⟩) .fail)
      | none => orcOf r f args h nx
    else orcOf r f args h nx
theorem orcOf_sound {P : Program} {g h : AHeap} {nx : Nat} : ∀ (l : List (PC P)) (f : FuncId) (args : Array Value) (t : Tree VR) (r : VR), orcOf l f args h nx = some t → t.run = some r →
    SatCall P g f args h nx r ∧ (P.funcs[f]?.bind (·.body)).isSome = true
  | [], _, _, _, _, ho, _ => by cases ho
  | c :: l, f, args, t, r, ho, hr => by
    unfold orcOf at ho
    simp only [cond_eq_ite, Nat.beq_eq] at ho
    split at ho
    · rename_i hf
      split at ho
      · rename_i q hq
        cases ho
        obtain ⟨hok, hr⟩ := Tree.run_guard hr
        cases hr
        obtain ⟨h1, h2, h3⟩ := c.ok args q hq hok
        subst hf
        refine ⟨fun ρ w R ha => ?_, c.body⟩
        have hlow : ∀ v ∈ args, bel B0 v = true := Array.all_eq_true_iff_forall_mem.1 h1
        rw [map_low R hlow]
        refine (h3 w).mono ?_
        rintro e w' ⟨rfl, hb⟩
        refine ⟨ρ, by rw [ren_low R h2], bel_low R h2, R.later (fun _ _ => rfl) fun k hk => hb.block k hk,
          ⟨Nat.le_refl _, fun _ _ => rfl, fun b B hb' _ => ⟨B, hb'⟩, fun b B hb' hn => absurd (R.lt b B hb').2 (by omega), hb.size, hb.os, hb.tape, hb.output, fun k hk _ => hb.block k hk⟩⟩
      · exact orcOf_sound l f args t r ho hr
    · exact orcOf_sound l f args t r ho hr
/-- The same reading with other oracles. -/
def Env.with {P : Program} (E : Env P) (fr : Bool) (l : List (PC P)) : Env P :=
  { E with
    frc := fr
    orc := fun _ f args h nx => orcOf l f args h nx
    horc := fun _ f args _ _ t r ho hr => orcOf_sound l f args t r ho hr }
/-- From what must hold to a call: Q of its value. -/
theorem calls_holds {P : Program} (E : Env P) (hcok : ∀ (f : Nat) fn c, P.funcs[f]? = some fn → fn.body = some c → cok c = true) (n : Nat) {f : FuncId} {args : Array Value} {Q : Value → Prop}
    (hr : ((ev E n).call [] f args [] B0).holds fun r => bel B0 r.v = true ∧ Q r.v) (ha : args.all (bel B0) = true) (w : World) : Calls P f args w fun e w' => ∃ v, e = .returned v ∧ Q v ∧ Below w.heap.size w w' := by
  obtain ⟨r, h1, h2, h3⟩ := Tree.holds_out hr
  refine (calls_read E hcok n (v := r.v) (by rw [h1]; rfl) ha h2 w).mono ?_
  rintro e w' ⟨rfl, hb⟩
  exact ⟨_, rfl, h3, hb⟩
/-- A contract out of a reading. -/
theorem calls_spec {P : Program} (E : Env P) (hcok : ∀ (f : Nat) fn c, P.funcs[f]? = some fn → fn.body = some c → cok c = true) (n : Nat) {f : FuncId} {args : Array Value} {v : Value}
    (hr : ((ev E n).call [] f args [] B0).holds fun r => r.v = v) (ha : args.all (bel B0) = true) (hv : bel B0 v = true) (w : World) : Calls P f args w fun e w' => e = .returned v ∧ Below w.heap.size w w' := by
  obtain ⟨r, h1, h2⟩ := Tree.holds_out hr
  exact calls_read E hcok n (v := v) (by rw [h1]; simp [h2]) ha hv w
end
end Go.Den
