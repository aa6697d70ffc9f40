/- The laws' cut of bytes. -/
import Derived.Test.YtbfjcpblbmlfcaaBkAwake
namespace Go.Proofs.Ytbfjcpblbmlfcaa
open Go.RowKit
set_option maxRecDepth 100000 in
theorem cut_any (A : Option Addr) (m c : Nat) (l : List Nat) (w : World) (hm : l.length = m) (hc : m ≤ c) (hbig : m ≤ 9223372036854775807) : Calls Try.prog 12 #[.slice A m c] w fun e w' => e = .returned (.slice A (l.take 32768).length c) ∧ w = w' := by
  rw [List.length_take, hm]
  by_cases h : 32768 < m
  · rw [Nat.min_eq_left (by omega)]
    have h2 : (32768 : Int) < (m : Int) := by omega
    have h3 : 32768 ≤ c := by omega
    have h4 : (32768 : Int) ≤ (c : Int) := by omega
    clear hm
    go_enter Try.func12, Try.ntmps12
    go_wp2
    go_ret
    exact ⟨rfl, rfl⟩
  · rw [Nat.min_eq_right (by omega)]
    have h2 : ¬ (32768 : Int) < (m : Int) := by omega
    clear hm
    go_enter Try.func12, Try.ntmps12
    go_wp2
    go_ret
    exact ⟨rfl, rfl⟩
end Go.Proofs.Ytbfjcpblbmlfcaa
