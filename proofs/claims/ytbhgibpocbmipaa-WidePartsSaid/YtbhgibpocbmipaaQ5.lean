/-
  Own texts, merged: Open
-/
import Derived.Lib.SmallJoins
import Derived.Test.YtbhgibpocbmipaaQ4


/-
  A wide number among a statement's arguments: opened, and shut.
-/
namespace Go.Proofs.Ytbhgibpocbmipaa
open Go.ChangeShapes Go.WideShapes Go.ChangeAt Go.RowKit Go.Joins

theorem own : ownKnob Try.prog.godebug = none := by kernel_rfl
theorem cellsW : Try.prog.cellsOf 24 = 2 := by kernel_rfl

theorem wf_i64 {n : Int} : (Lit.int .i64 n).wf = true ↔ -9223372036854775808 ≤ n ∧ n ≤ 9223372036854775807 := by
  simp [Lit.wf, IntKind.min, IntKind.max, IntKind.signed, IntKind.bits]
theorem wf_u64 {n : Int} : (Lit.int .u64 n).wf = true ↔ 0 ≤ n ∧ n ≤ 18446744073709551615 := by
  simp [Lit.wf, IntKind.min, IntKind.max, IntKind.signed, IntKind.bits]
theorem wf_u32 {n : Int} : (Lit.int .u32 n).wf = true ↔ 0 ≤ n ∧ n ≤ 4294967295 := by
  simp [Lit.wf, IntKind.min, IntKind.max, IntKind.signed, IntKind.bits]

theorem open_w {H : Type} {enc : TypeId × Value → H} {w : World} {b0 base : Nat} {spare : Nat → Bool} {held : Bool} {v : Value} {d : DataW H} {p : List MemPlace}
    (hv : Value.okWide Try.prog w .any b0 24 v) (h : DataW.Trod enc Try.prog w base spare held 24 v d p) :
    ∃ n : Int, InR n ∧ v = .agg #[.int .i64 (hi n), .int .u64 (lo n)] ∧ d = .agg [.lit (.int .i64 (hi n)), .lit (.int .u64 (lo n))] ∧ p = [] := by
  obtain ⟨c0, c1, y0, y1, m, rfl, rfl, rfl, hy0, hy1⟩ := open_agg2 Try.underlying24 (by kernel_rfl) cellsW hv h
  obtain ⟨a, e0, rfl, wa⟩ := DataW.trod_int Try.underlying2 hy0
  obtain ⟨b, e1, rfl, wb⟩ := DataW.trod_int Try.underlying22 hy1
  simp at e0 e1
  subst e0 e1
  have ha := wf_i64.1 wa; have hb := wf_u64.1 wb
  exact ⟨a * 18446744073709551616 + b, inR_of hb.1 hb.2 ha.1 ha.2, by rw [hi_of hb.1 hb.2 rfl, lo_of hb.1 hb.2 rfl], by rw [hi_of hb.1 hb.2 rfl, lo_of hb.1 hb.2 rfl], rfl⟩

theorem shut_w {H : Type} {enc : TypeId × Value → H} {w : World} {base : Nat} {spare : Nat → Bool} {held : Bool} {n : Int} (hn : InR n) :
    DataW.Trod enc Try.prog w base spare held 24 (.agg #[.int .i64 (hi n), .int .u64 (lo n)]) (.agg [.lit (.int .i64 (hi n)), .lit (.int .u64 (lo n))]) [] :=
  shut_agg2 (y0 := (.lit (.int .i64 (hi n)), [])) (y1 := (.lit (.int .u64 (lo n)), [])) Try.underlying24 (by kernel_rfl) cellsW
    ⟨1, by simp [DataW.trod, Try.underlying2, wf_i64.2 (hi_bd hn)]⟩ ⟨1, by simp [DataW.trod, Try.underlying22, wf_u64.2 (lo_bd n)]⟩
end Go.Proofs.Ytbhgibpocbmipaa
