
/-
  The statements' own 'known' of layer 2, and what is read by.
-/
import Derived.Test.YtbhgibpocbmipaaPC
namespace Go.Proofs.Ytbhgibpocbmipaa
open Go.Den Go.RowKit
noncomputable section
theorem k2_read : (((ev envT 1000).call [] 35 #[] [] B0).run.map (·.v)) = some (.bool true) := by kernel_rfl
def pcK2 : PC Try.prog := pcKnown 35 (by kernel_rfl) k2_read
def envM : Env Try.prog := envS.with false (pcK2 :: pcsW)
end
end Go.Proofs.Ytbhgibpocbmipaa
