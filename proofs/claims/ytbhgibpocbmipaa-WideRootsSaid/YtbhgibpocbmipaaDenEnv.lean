
import Derived.Test.YtbhgibpocbmipaaRows
import Derived.Test.YtbhgibpocbmipaaDenY
namespace Go.Den
open Go.Proofs
set_option maxRecDepth 100000
theorem hmixT : Try.prog.follows .mixedOrders = true := by kernel_rfl
theorem hngT : (Try.prog.funcs.all fun fn => !(fn.name == "runtime.NumGoroutine")) = true := by kernel_rfl
theorem hcokT : (Try.prog.funcs.all fun fn => match fn.body with | some c => cok c | none => true) = true := by kernel_rfl
theorem soWide : Try.prog.stoodInHeld 24 = false ∧ Try.prog.eqGuardType Try.prog.depth 24 = false := ⟨by kernel_rfl, by kernel_rfl⟩
noncomputable def envF (fr : Bool) : Env Try.prog where
  frc := fr
  so := fun t => Nat.beq t 24
  hso := fun t h => by rw [Nat.beq_eq] at h; subst h; exact soWide
  hmix := hmixT
  hng := fun f fn hf => by have := eq_of_all hngT hf; simpa using this
  ext := fun f args => bif Nat.beq f 57 then add64A args else bif Nat.beq f 61 then sub64A args else none
  hext := fun f args r hr hok => by
    simp only [cond_eq_ite, Nat.beq_eq] at hr
    split at hr
    · rename_i h; subst h
      exact add64_ext Try.func57 (by kernel_rfl) (by kernel_rfl) (by kernel_rfl) (by kernel_rfl) hr hok
    · split at hr
      · rename_i h; subst h
        exact sub64_ext Try.func61 (by kernel_rfl) (by kernel_rfl) (by kernel_rfl) (by kernel_rfl) hr hok
      · cases hr
  orc := fun _ _ _ _ _ => none
  horc := fun _ _ _ _ _ _ _ h => by cases h
noncomputable abbrev envT : Env Try.prog := envF true
noncomputable abbrev envS : Env Try.prog := envF false
theorem hcokP (f : Nat) (fn : Func) (c : Code) (hf : Try.prog.funcs[f]? = some fn) (hb : fn.body = some c) : cok c = true := by
  have := eq_of_all hcokT hf
  rw [hb] at this; exact this
end Go.Den
