
/-
  Octet: the chapter's rows (known).
-/
import Derived.Test.YtbmifinomdcllaaOcN

import Derived.Test.YtbmifinomdcllaaOcG

namespace Go.Proofs.Ytbmifinomdcllaa

open Go.RowKit Go.Lib

set_option maxRecDepth 100000

theorem known_u16 (w w' : World) (little : Bool) (v : Int) (hv : ((getN little [1, 2] 0 2 : Nat) : Int) = v) (hb : Below (w.alloc (.cells #[.int .u8 1, .int .u8 2] 5)).heap.size (w.alloc (.cells #[.int .u8 1, .int .u8 2] 5)) w') :
    Calls Try.prog 11 #[.agg #[.slice (some ⟨w.heap.size, 0, none⟩) 2 2, .bool little], .int .i64 0] w' fun e w2 => e = .returned (.int .u16 v) ∧ Below w'.heap.size w' w2 := by
  subst hv
  exact u16_any (some ⟨w.heap.size, 0, none⟩) [1, 2] 2 little 0 (by decide) (by decide) (by decide) w' ((rd_of_blk (l := [1, 2]) (T := 5) (Blk.new rfl)).below hb)
theorem rows_one {w : World} {g : Nat} {p : Part} {T : TypeId} (h : Blk w g #[partV p] T) (hr : Rd w p.1 p.2.1) : Rows2 w (some ⟨g, 0, none⟩) [p] := fun _ => by
  refine ⟨g, 0, rfl, fun j q hq => ?_⟩
  match j with
  | 0 =>
    cases hq
    exact ⟨h.one, hr⟩
  | j + 1 => simp at hq
theorem known_sum (w : World) :
    Calls Try.prog 17 #[.slice (some ⟨w.heap.size + 1, 0, none⟩) 1 1] ((w.alloc (.cells #[.int .u8 0, .int .u8 1, .int .u8 242, .int .u8 3, .int .u8 244, .int .u8 245, .int .u8 246, .int .u8 247] 5)).alloc (.cells #[.slice (some ⟨w.heap.size, 0, none⟩) 8 8] 22)) fun e w' => e = .returned (.int .u16 8717) ∧ ((w.alloc (.cells #[.int .u8 0, .int .u8 1, .int .u8 242, .int .u8 3, .int .u8 244, .int .u8 245, .int .u8 246, .int .u8 247] 5)).alloc (.cells #[.slice (some ⟨w.heap.size, 0, none⟩) 8 8] 22)) = w' := by
  have h1 : Blk (w.alloc (.cells #[.int .u8 0, .int .u8 1, .int .u8 242, .int .u8 3, .int .u8 244, .int .u8 245, .int .u8 246, .int .u8 247] 5)) w.heap.size (([0, 1, 242, 3, 244, 245, 246, 247] : List UInt8).map u8).toArray 5 := Blk.new rfl
  have h0 : Blk ((w.alloc (.cells #[.int .u8 0, .int .u8 1, .int .u8 242, .int .u8 3, .int .u8 244, .int .u8 245, .int .u8 246, .int .u8 247] 5)).alloc (.cells #[.slice (some ⟨w.heap.size, 0, none⟩) 8 8] 22)) (w.heap.size + 1) #[.slice (some ⟨w.heap.size, 0, none⟩) 8 8] 22 := Blk.new (by simp)
  have h2 := sum_any (some ⟨w.heap.size + 1, 0, none⟩) [(some ⟨w.heap.size, 0, none⟩, [0, 1, 242, 3, 244, 245, 246, 247], 8)] 1 (by simp [flatP]) (by simp) (by simp) _ (rows_one (T := 22) h0 (rd_of_blk (h1.old _)))
  have e : ck (sumP true (flatP [((some ⟨w.heap.size, 0, none⟩ : Option Addr), ([0, 1, 242, 3, 244, 245, 246, 247] : List UInt8), 8)])) = 8717 := by
    show ck (sumP true [0, 1, 242, 3, 244, 245, 246, 247]) = 8717
    decide
  rw [e] at h2
  exact h2
set_option maxHeartbeats 2000000 in
theorem known_any (w : World) : Calls Try.prog 7 #[] w fun e w' => e = .returned (.bool true) ∧ Below w.heap.size w w' := by
  have HB := Lib.hid (fun w' hb => known_u16 w w' false 258 (by decide) hb)
  have HL := Lib.hid (fun w' hb => known_u16 w w' true 513 (by decide) hb)
  have HS := Lib.hid known_sum
  go_enter Try.func7, Try.ntmps7
  go_wp2_with (first
    | (go_at_call_of 11 (Value.agg #[Value.slice (some ⟨w.heap.size, 0, none⟩) 2 2, Value.bool false]); refine (HB.out _ (Below.refl _ _)).mono ?_; rintro e w1 ⟨rfl, hb1⟩; have HB1 := Lib.hid hb1; clear hb1)
    | (go_at_call_of 11 (Value.agg #[Value.slice (some ⟨w.heap.size, 0, none⟩) 2 2, Value.bool true]); refine (HL.out _ HB1.out).mono ?_; rintro e w2 ⟨rfl, hb2⟩; have HB2 := Lib.hid (HB1.out.trans (hb2.mono HB1.out.size)); clear hb2)
    | (go_at_call_of 14 (Value.int IntKind.i64 5); refine (pad_any 5 _).mono ?_; rintro e w' ⟨rfl, rfl⟩; rw [show padI 5 = 3 from rfl])
    | (go_at_call_of 14 (Value.int IntKind.i64 8); refine (pad_any 8 _).mono ?_; rintro e w' ⟨rfl, rfl⟩; rw [show padI 8 = 0 from rfl])
    | (go_at_call 17; refine (HS.out _).mono ?_; rintro e w' ⟨rfl, rfl⟩))
  go_ret
  exact ⟨rfl, (((Below.refl _ w).alloc (Nat.le_refl _) _).trans (HB2.out.mono (by simp))).trans ((((Below.refl _ _).alloc (Nat.le_refl _) _).alloc (by simp) _).mono (by have := HB2.out.size; simp at this; omega))⟩
end Go.Proofs.Ytbmifinomdcllaa
