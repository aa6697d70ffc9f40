/- bytes.Equal. -/
import Derived.Test.YtbfjcpblbmlfcaaBkEnts
namespace Go.Proofs.Ytbfjcpblbmlfcaa
open Go.RowKit
set_option maxRecDepth 100000 in
theorem equal_yes (A B : Option Addr) (n c m d : Nat) (x : List Nat) (w : World) (hx : Rd w A n x) (hy : Rd w B m x) :
    Calls Try.prog 31 #[.slice A n c, .slice B m d] w fun e w' => e = .returned (.bool true) ∧ Below w.heap.size w w' := by
  have h1 := run_str (cap := c) hx
  have h2 := run_str (cap := d) hy
  have h3 := str_same (a := x) rfl
  go_enter Try.func31, Try.ntmps31
  go_wp2
  go_ret
  exact ⟨rfl, Below.refl _ _⟩
set_option maxRecDepth 100000 in
theorem equal_no (A B : Option Addr) (n c m d : Nat) (x y : List Nat) (w : World) (hx : Rd w A n x) (hy : Rd w B m y) (hne : x ≠ y) :
    Calls Try.prog 31 #[.slice A n c, .slice B m d] w fun e w' => e = .returned (.bool false) ∧ Below w.heap.size w w' := by
  have h1 := run_str (cap := c) hx
  have h2 := run_str (cap := d) hy
  have h3 := str_other hx.2.1 hy.2.1 hne
  go_enter Try.func31, Try.ntmps31
  go_wp2
  go_ret
  exact ⟨rfl, Below.refl _ _⟩
end Go.Proofs.Ytbfjcpblbmlfcaa
