/- For DiskOwn: the disks of its run. -/
import Derived.Test.YtamdihodconjiaaDkAwake
namespace Go.Proofs.Ytamdihodconjiaa
open Go.RowKit
set_option linter.unusedVariables false
/-- A disk of two sectors, X written to the second, whose fixed bytes are Z. -/
def own1 (Z X : List Nat) : Dk.St := ⟨[⟨Dk.zeros, []⟩, ⟨Z, [X]⟩], 1, false, 0⟩
def ownC (X : List Nat) : Dk.St := ⟨[⟨Dk.zeros, []⟩, ⟨X, []⟩], 0, false, 0⟩
section
variable {X Z : List Nat}
theorem own_w1 (hX : X.length = 128) : ex0.writeE 1 X.length = 0 := by rw [hX]; kernel_rfl
theorem own_s1 (hX : X.length = 128) : ex0.write 1 X = own1 Dk.zeros X := by
  unfold Dk.St.write
  rw [show ex0.writeE 1 X.length = 0 from own_w1 hX, if_pos rfl]
  rfl
theorem own_ready : (own1 Z X).ready 1 = 0 := by rfl
theorem own_read : (own1 Z X).readB 1 = X := by rfl
theorem own_loose : (own1 Z X).loose = [(1, 1)] := by rfl
theorem own_crash : (own1 Z X).crashE [⟨1, 0⟩] = 0 := by rfl
theorem own_crashed : (own1 Z X).crash [⟨1, 0⟩] = ownC X := by
  unfold Dk.St.crash own1 ownC
  simp [Dk.crashL, Dk.Sec.after]
theorem own_cw (Y : List Nat) (hY : Y.length = 128) : (ownC X).writeE 1 Y.length = 0 := by rw [hY]; rfl
theorem own_rotE : (own1 Z X).rotE 1 0 = 0 := by rfl
theorem own_rot : (own1 Z X).rot 1 0 1 = own1 (Dk.turn Z 0 1) X := by rfl
theorem own_lowC : (ownC X).low 10 := ⟨show (0 : Int) ≤ 0 by decide, show (0 : Int) ≤ 10 by decide, show (0 : Int) ≤ 0 by decide, show (0 : Int) ≤ 1048576 by decide, fun s hs => by
  simp [ownC] at hs
  rcases hs with rfl | rfl <;> simp⟩
end
/-- A slice's bytes are turned, one after the other. -/
theorem xor_256 {x : Nat} (h : x < 256) : x ^^^ 255 < 256 := by
  have : x ^^^ 255 < 2 ^ 8 := Nat.xor_lt_two_pow (by omega) (by omega)
  omega
end Go.Proofs.Ytamdihodconjiaa
