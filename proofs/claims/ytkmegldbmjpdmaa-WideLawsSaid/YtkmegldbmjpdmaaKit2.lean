
/-
  More of my own: a region taken out of a function's body; the world behind a step as a letter.
-/
import Derived.Test.YtkmegldbmjpdmaaKit
namespace Go.Proofs.Ytkmegldbmjpdmaa
open Go.RowKit

def findRegion (k : Nat) : Code → Option Code
  | .region i ops d => if i = k then some (.region i ops d) else none
  | .seq a b => match findRegion k a with
    | some c => some c
    | none => findRegion k b
  | .loop c => findRegion k c
  | .block _ c => findRegion k c
  | .scope c => findRegion k c
  | .cond _ a b => match findRegion k a with
    | some c => some c
    | none => findRegion k b
  | _ => none

section
variable {P : Program} {ops : Array Oper} {Q : Exit → Act → World → Prop} {md : Region.Mode} {S : World → Prop}
theorem H.begin (S : World → Prop) {id : Nat} {a : Act} {w : World} (hm : P.follows .mixedOrders = true) (hS : S w.drew)
    (h : ∀ w', S w' → wpAnyH P .any ops Q S ops.size (Array.replicate ops.size false) a w') : (Code.region id ops true).wp P Q a w :=
  wp_region_held hm (h _ hS)
theorem H.forget1 {fuel : Nat} {listed : Array Bool} {a : Act} {w : World} {b1 : Nat} {c1 : Array Value} {T1 : TypeId} (hS : S w) (n1 : Blk w b1 c1 T1)
    (h : ∀ w', S w' → Blk w' b1 c1 T1 → wpAnyH P md ops Q S fuel listed a w') : wpAnyH P md ops Q S fuel listed a w := h w hS n1
theorem H.forget2 {fuel : Nat} {listed : Array Bool} {a : Act} {w : World} {b1 b2 : Nat} {c1 c2 : Array Value} {T1 T2 : TypeId} (hS : S w) (n1 : Blk w b1 c1 T1) (n2 : Blk w b2 c2 T2)
    (h : ∀ w', S w' → Blk w' b1 c1 T1 → Blk w' b2 c2 T2 → wpAnyH P md ops Q S fuel listed a w') : wpAnyH P md ops Q S fuel listed a w := h w hS n1 n2
end
/-- Two new blocks of two cells, beside what S says. -/
def TwoNew (S : World → Prop) (c1 c2 : Array Value) (T : TypeId) (p1 p2 : Value) (w : World) : Prop :=
  ∃ b1 b2 : Nat, p1 = .pointer (some ⟨b1, 0, none⟩) ∧ p2 = .pointer (some ⟨b2, 0, none⟩) ∧ Blk w b1 c1 T ∧ Blk w b2 c2 T ∧ S w
def OneNew (S : World → Prop) (c1 : Array Value) (T : TypeId) (p1 : Value) (w : World) : Prop :=
  ∃ b1 : Nat, p1 = .pointer (some ⟨b1, 0, none⟩) ∧ Blk w b1 c1 T ∧ S w
end Go.Proofs.Ytkmegldbmjpdmaa
