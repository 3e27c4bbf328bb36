
/-
  The document's product: its code in pieces, and what stands at the head of its loop.
-/
import Derived.Test.YtbhgibpocbmipaaNumR
namespace Go.Proofs.Ytbhgibpocbmipaa
open Go.Den Go.RowKit
noncomputable section
set_option maxRecDepth 100000
noncomputable def codeOf (f : Nat) : Code := ((Try.prog.funcs[f]?).bind (·.body)).getD .skip
noncomputable def getZ (zs : List Value) : Nat → Value := List.rec (motive := fun _ => Nat → Value) (fun _ => undef) (fun z _ ih k => Nat.casesOn (motive := fun _ => Value) k z fun m => ih m) zs
noncomputable def mulC : Code := codeOf 27
noncomputable def mulL : Code := cL (cR (cL (cR (cR mulC))))
noncomputable def mulB : Code := cL mulL
noncomputable def zeroN : Value := .agg ⟨.bool false :: mapU [0, 0, 0, 0, 0, 0, 0, 0, 0, 0, 0, 0, 0, 0, 0, 0, 0, 0, 0, 0]⟩
noncomputable def blkN (s : Bool) (l : List Int) : ABlk := ⟨⟨.bool s :: mapU l⟩, 28, none⟩
noncomputable def mulT (i : Int) (zs : List Value) (sa sb so : Bool) (a b o : List Int) : St :=
  ⟨FT.ins [getZ zs 0, getZ zs 1, ptr B0, ptr (B0 + 1), ptr (B0 + 2), ptr (B0 + 3), .int .i64 i, getZ zs 7, getZ zs 8, getZ zs 9, getZ zs 10, getZ zs 11, getZ zs 12, getZ zs 13, getZ zs 14, getZ zs 15, getZ zs 16, getZ zs 17, getZ zs 18, getZ zs 19, getZ zs 20, getZ zs 21, getZ zs 22, getZ zs 23, getZ zs 24, getZ zs 25, getZ zs 26, getZ zs 27, getZ zs 28, getZ zs 29, getZ zs 30, getZ zs 31, getZ zs 32, getZ zs 33, getZ zs 34, getZ zs 35, getZ zs 36, getZ zs 37, getZ zs 38, getZ zs 39, getZ zs 40, getZ zs 41, getZ zs 42, getZ zs 43, getZ zs 44, getZ zs 45, getZ zs 46, getZ zs 47, getZ zs 48, getZ zs 49, getZ zs 50, getZ zs 51, getZ zs 52, getZ zs 53, getZ zs 54, getZ zs 55, getZ zs 56, getZ zs 57, getZ zs 58, getZ zs 59, getZ zs 60, getZ zs 61, getZ zs 62, getZ zs 63, getZ zs 64, getZ zs 65, getZ zs 66, getZ zs 67, getZ zs 68, getZ zs 69, getZ zs 70, getZ zs 71, getZ zs 72, getZ zs 73] 0 ⟨74, .nil⟩,
    [(B0, blkN sa a), (B0 + 1, blkN sb b), (B0 + 2, blkN false [0, 0, 0, 0, 0, 0, 0, 0, 0, 0, 0, 0, 0, 0, 0, 0, 0, 0, 0, 0]), (B0 + 3, blkN so o)], B0 + 4⟩
end
end Go.Proofs.Ytbhgibpocbmipaa
