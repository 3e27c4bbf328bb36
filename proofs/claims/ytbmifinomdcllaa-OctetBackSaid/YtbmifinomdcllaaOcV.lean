
/-
  OctetBack: the law's walk.
-/
import Derived.Test.YtbmifinomdcllaaOcT

namespace Go.Proofs.Ytbmifinomdcllaa

open Go.RowKit Go.Lib

theorem octetBack_walk {w : World} (v : Value) (l : List UInt8) (hb : BArg w v l) (little : Bool) (n : Int) (n0 : 0 ≤ n) (n1 : n ≤ 18446744073709551615) (t : Int) (t0 : 0 ≤ t) (t1 : t ≤ 65535) :
    Calls Try.prog 6 #[v, .bool little, .int .u64 n, .int .u16 t] w fun e w' => e = .returned (.bool true) ∧ Below w.heap.size w w' := by
  obtain ⟨n, rfl⟩ := Int.eq_ofNat_of_zero_le n0
  obtain ⟨t, rfl⟩ := Int.eq_ofNat_of_zero_le t0
  by_cases hl : l.length ≤ 300
  · exact back_go v l hl little n (by omega) t (by omega) w hb
  · exact back_big v l (by omega) little n t w hb
end Go.Proofs.Ytbmifinomdcllaa
