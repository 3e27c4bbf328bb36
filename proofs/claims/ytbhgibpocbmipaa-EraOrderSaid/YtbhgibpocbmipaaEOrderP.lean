
/-
  The Go function horologelaw03.EraOrder returns true for all arguments, and leaves them as they were.
  Conditions: none.
-/
import Derived.Test.YtbhgibpocbmipaaEraB
import Derived.Test.YtbhgibpocbmipaaOpen
namespace Go.Proofs.Ytbhgibpocbmipaa
open Go.ChangeShapes Go.WideShapes Go.ChangeAt Go.RowKit

set_option maxRecDepth 100000 in
theorem eraOrder_lifted (os : Os) (started : os.Started) (H : Type) (enc : TypeId × Value → H) :
    ReturnsInHanded {} Try.checked os 12 .any (Rows.eraOrderSpec.pre6 enc Try.prog Try.f12 Rows.eraOrderRow.domain false) (Rows.eraOrderSpec.post enc Try.prog Try.f12 false true false false) := by
  refine returnsInHanded_of_change (C := Try.checked) own started (by kernel_rfl) Try.func12
    (ChangeSpec.witness6 (enc := enc) (C := Try.checked) false ⟨#[], #[.int .u64 0, .agg #[.int .i64 0, .int .u64 0], .agg #[.int .i64 0, .int .u64 0], .int .u64 0, .int .u64 0, .int .u32 0, .int .u32 0], []⟩ 8 (by kernel_rfl) (by kernel_rfl) (by kernel_rfl) (by kernel_rfl)) ?_
  intro W base args ds gs before hval0 hW _ _
  have hval : ∀ (j : Nat) t v, Try.f12.params[j]? = some t → args[j]? = some v → Value.okWide Try.prog W .any base t v := hval0
  have hW' := hW
  obtain ⟨p, q, hA0, hV, rfl, _, _⟩ := hW
  have hA : DataW.TrodAll enc Try.prog W 0 (fun _ => true) true Try.f12.params.toList args.toList ds p := hA0
  rw [Try.params12] at hA hval
  obtain ⟨v0, vs0, d0, ds0, p0, q0, hargs, rfl, rfl, h0, r0⟩ := trodAll_cons hA
  obtain ⟨v1, vs1, d1, ds1, p1, q1, rfl, rfl, rfl, h1, r1⟩ := trodAll_cons r0
  obtain ⟨v2, vs2, d2, ds2, p2, q2, rfl, rfl, rfl, h2, r2⟩ := trodAll_cons r1
  obtain ⟨v3, vs3, d3, ds3, p3, q3, rfl, rfl, rfl, h3, r3⟩ := trodAll_cons r2
  obtain ⟨v4, vs4, d4, ds4, p4, q4, rfl, rfl, rfl, h4, r4⟩ := trodAll_cons r3
  obtain ⟨v5, vs5, d5, ds5, p5, q5, rfl, rfl, rfl, h5, r5⟩ := trodAll_cons r4
  obtain ⟨v6, vs6, d6, ds6, p6, q6, rfl, rfl, rfl, h6, r6⟩ := trodAll_cons r5
  obtain ⟨rfl, rfl, rfl⟩ := trodAll_nil r6
  obtain rfl : args = #[v0, v1, v2, v3, v4, v5, v6] := by cases args; simp_all
  obtain ⟨rfl, rfl⟩ := trodVars_none hV
  obtain ⟨a0, rfl, rfl, rfl, wa0⟩ := open_int Try.underlying22 (hval 0 _ v0 rfl rfl) h0
  have ha0 := wf_u64.1 wa0
  obtain ⟨a1, ia1, rfl, rfl, rfl⟩ := open_w (hval 1 _ v1 rfl rfl) h1
  obtain ⟨a2, ia2, rfl, rfl, rfl⟩ := open_w (hval 2 _ v2 rfl rfl) h2
  obtain ⟨a3, rfl, rfl, rfl, wa3⟩ := open_int Try.underlying22 (hval 3 _ v3 rfl rfl) h3
  have ha3 := wf_u64.1 wa3
  obtain ⟨a4, rfl, rfl, rfl, wa4⟩ := open_int Try.underlying22 (hval 4 _ v4 rfl rfl) h4
  have ha4 := wf_u64.1 wa4
  obtain ⟨a5, rfl, rfl, rfl, wa5⟩ := open_int Try.underlying40 (hval 5 _ v5 rfl rfl) h5
  have ha5 := wf_u32.1 wa5
  obtain ⟨a6, rfl, rfl, rfl, wa6⟩ := open_int Try.underlying40 (hval 6 _ v6 rfl rfl) h6
  have ha6 := wf_u32.1 wa6
  clear hA0 hval0
  simp only [List.append_nil] at hW'
  refine (eraOrder_walk a0 ha0.1 ha0.2 a1 ia1 a2 ia2 a3 ha3.1 ha3.2 a4 ha4.1 ha4.2 a5 ha5.1 ha5.2 a6 ha6.1 ha6.2 W).mono fun e W' ⟨he, hg⟩ => ?_
  subst he
  exact ⟨_, rfl, _, _, _, [], [], [], hW', (trodAll_cons_mk (shut_bool Try.underlying4 _) trodAll_mk0), (trodAll_cons_mk (shut_int Try.underlying22 wa0) (trodAll_cons_mk (shut_w ia1) (trodAll_cons_mk (shut_w ia2) (trodAll_cons_mk (shut_int Try.underlying22 wa3) (trodAll_cons_mk (shut_int Try.underlying22 wa4) (trodAll_cons_mk (shut_int Try.underlying40 wa5) (trodAll_cons_mk (shut_int Try.underlying40 wa6) trodAll_mk0))))))), rfl,
    hg.frame _, fun h => by cases h⟩

theorem eraOrder_holds : Rows.EraOrderSaid :=
  OpenClaim.holds_of_wide 12 Try.f12 rfl rfl rfl rfl rfl rfl rfl ⟨rfl, rfl, rfl, rfl, rfl⟩ rfl rfl rfl rfl rfl (by kernel_rfl) Try.func12 (by kernel_rfl)
    (of_decide_eq_true (by kernel_rfl)) (by unfold Func.isWrapper; first | (rw [if_pos (by decide +kernel)]; kernel_rfl) | (rw [if_neg (by decide +kernel)]; exact ⟨rfl, rfl⟩))
    (fun os started H enc _ => eraOrder_lifted os started H enc)
end Go.Proofs.Ytbhgibpocbmipaa
