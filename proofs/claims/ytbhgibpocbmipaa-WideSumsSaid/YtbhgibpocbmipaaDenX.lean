/-
  Functions without a Go body, as they are read; and from a reading to a call.
-/
import Derived.Test.YtbhgibpocbmipaaDenN
import Derived.Laws.Externs
import Derived.Shelf.Spec.BitsCarry
namespace Go.Den
open Go.RowKit
noncomputable section

/-- math/bits.Add64. -/
def add64A : Array Value → Option (Bool × Value)
  | ⟨[.int .u64 x, .int .u64 y, .int .u64 c]⟩ => some (decide (0 ≤ c) && (decide (c ≤ 1) && (decide (0 ≤ x) && decide (0 ≤ y))),
      .tuple #[.int .u64 ((x + y + c) % 18446744073709551616), .int .u64 ((x + y + c) / 18446744073709551616)])
  | _ => none
/-- math/bits.Sub64. -/
def sub64A : Array Value → Option (Bool × Value)
  | ⟨[.int .u64 x, .int .u64 y, .int .u64 b]⟩ => some (decide (0 ≤ b) && (decide (b ≤ 1) && (decide (0 ≤ x) && (decide (0 ≤ y) && decide (y ≤ 18446744073709551615)))),
      .tuple #[.int .u64 ((x - y - b) % 18446744073709551616), .int .u64 (if x < y + b then 1 else 0)])
  | _ => none
section
variable {P : Program} {f : FuncId} {fn : Func}
theorem add64_ext (hf : P.funcs[f]? = some fn) (hn : (fn.name == "runtime.NumGoroutine") = false) (hb : fn.body.isNone = true) (h1 : Extern.findNext fn = none) (h2 : Extern.find fn = some Go.add64Entry)
    {args : Array Value} {r : Bool × Value} (hr : add64A args = some r) (hok : r.1 = true) : bel B0 r.2 = true ∧ ∀ w, (callFunc f args).run P w = .ok (.value r.2) w := by
  unfold add64A at hr
  split at hr
  · rename_i x y c
    cases hr
    simp only [Bool.and_eq_true, decide_eq_true_eq] at hok
    refine ⟨rfl, fun w => ?_⟩
    rw [run_callFunc_extern hf hn hb h1 h2, Go.run_add64 x y c hok.2.2.1 hok.2.2.2 hok.1 hok.2.1]
    rfl
  · cases hr
theorem sub64_ext (hf : P.funcs[f]? = some fn) (hn : (fn.name == "runtime.NumGoroutine") = false) (hb : fn.body.isNone = true) (h1 : Extern.findNext fn = none) (h2 : Extern.find fn = some Go.Proofs.sub64Entry)
    {args : Array Value} {r : Bool × Value} (hr : sub64A args = some r) (hok : r.1 = true) : bel B0 r.2 = true ∧ ∀ w, (callFunc f args).run P w = .ok (.value r.2) w := by
  unfold sub64A at hr
  split at hr
  · rename_i x y b
    cases hr
    simp only [Bool.and_eq_true, decide_eq_true_eq] at hok
    refine ⟨rfl, fun w => ?_⟩
    obtain ⟨p4, p5, p1, p2, p3⟩ := hok
    obtain ⟨x, rfl⟩ := Int.eq_ofNat_of_zero_le p1
    obtain ⟨y, rfl⟩ := Int.eq_ofNat_of_zero_le p2
    obtain ⟨b, rfl⟩ := Int.eq_ofNat_of_zero_le p4
    rw [run_callFunc_extern hf hn hb h1 h2, Go.Proofs.run_sub64 x y b (by omega)]
    simp only [Result.andThen]
    have e1 : (((x + 18446744073709551616 - y - b) % 18446744073709551616 : Nat) : Int) = ((x : Int) - y - b) % 18446744073709551616 := by omega
    have e2 : ((if x < y + b then 1 else 0 : Nat) : Int) = if (x : Int) < y + b then 1 else 0 := by
      by_cases h : x < y + b
      · rw [if_pos h, if_pos (by omega)]; rfl
      · rw [if_neg h, if_neg (by omega)]; rfl
    rw [e1, e2]
  · cases hr
end
/-- What is read of a call whose arguments, and whose value, bear no addresses. -/
theorem calls_read {P : Program} (E : Env P) (hcok : ∀ (f : Nat) fn c, P.funcs[f]? = some fn → fn.body = some c → cok c = true) (n : Nat) {f : FuncId} {args : Array Value} {v : Value}
    (hr : (((ev E n).call [] f args [] B0).run.map (·.v)) = some v) (ha : args.all (bel B0) = true) (hv : bel B0 v = true) (w : World) : Calls P f args w fun e w' => e = .returned v ∧ Below w.heap.size w w' := by
  cases hq : ((ev E n).call [] f args [] B0).run with
  | none => rw [hq] at hr; cases hr
  | some r =>
    rw [hq] at hr
    simp only [Option.map_some, Option.some.injEq] at hr
    subst hr
    obtain ⟨h1, _⟩ := (ev_sound E hcok n).call _ _ _ _ _ _ hq
    have R : Rel id [] [] B0 w := ⟨fun _ _ => rfl, Nat.le_refl _, fun b B h => (by cases h), fun b B h => (by cases h), fun b b' B B' h => (by cases h), fun b b' B B' h => (by cases h), fun b B h => (by cases h), fun b B h => (by cases h), fun b B h => (by cases h), fun b B h => (by cases h)⟩
    have hargs : ∀ v ∈ args, bel B0 v = true := Array.all_eq_true_iff_forall_mem.1 ha
    have h2 := h1 id w R hargs
    rw [map_low R hargs] at h2
    refine h2.mono ?_
    rintro e w' ⟨ρ', rfl, hb, R', S⟩
    exact ⟨by rw [ren_id R'.low r.v hv], ⟨S.os, S.tape, S.output, S.size, fun k hk => S.none_keep k hk⟩⟩
theorem eq_of_all {p : Func → Bool} {P : Program} (h : P.funcs.all p = true) {f : Nat} {fn : Func} (hf : P.funcs[f]? = some fn) : p fn = true :=
  (Array.all_eq_true_iff_forall_mem.1 h) fn (Array.mem_of_getElem? hf)
end
end Go.Den
