/- The law's example. -/
import Derived.Test.YtbdomhookjmmgaaDkG
import Derived.Lib.SlBytesConst
namespace Go.Proofs.Ytbdomhookjmmgaa
open Go.RowKit
set_option linter.unusedVariables false
def exX : List Nat := Dk.full [120, 120, 120, 120, 120]
def exY : List Nat := Dk.full [121, 121, 121, 121, 121]
def ex0 : Dk.St := Dk.St.new 2
def ex1 : Dk.St := ex0.write 0 exX
def ex2 : Dk.St := ex1.write 0 exY
theorem ex_e1 : ex0.writeE 0 exX.length = 0 := by kernel_rfl
theorem ex_e2 : ex1.writeE 0 exY.length = 0 := by kernel_rfl
theorem ex_n : ex2.n = 2 := by kernel_rfl
theorem ex_loose : ex2.loose = [(0, 2)] := by kernel_rfl
theorem ex_crash : ex2.crashE [⟨1, 3⟩] = 0 := by kernel_rfl
theorem ex_ready : (ex2.crash [⟨1, 3⟩]).ready 0 = 0 := by kernel_rfl
theorem ex_read : ((ex2.crash [⟨1, 3⟩]).readB 0).take 6 = [121, 121, 121, 120, 120, 0] := by kernel_rfl
theorem ex_low0 : ex0.low 10 := ⟨by decide, by decide, by decide, by decide, fun s hs => by
  have : s = ⟨Dk.zeros, []⟩ := List.eq_of_mem_replicate hs
  subst this
  simp⟩
theorem ex_low1 : ex1.low 10 := ⟨by decide +kernel, by decide +kernel, by decide +kernel, by decide +kernel, by decide +kernel⟩
end Go.Proofs.Ytbdomhookjmmgaa
