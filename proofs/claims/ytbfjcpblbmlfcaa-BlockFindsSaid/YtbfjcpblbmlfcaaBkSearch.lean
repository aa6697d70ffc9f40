/- sort.Search, with whatever function. -/
import Derived.Test.YtbfjcpblbmlfcaaBkOrd
import Derived.Test.YtbfjcpblbmlfcaaBkSame
namespace Go.Proofs.Ytbfjcpblbmlfcaa
open Go.RowKit
set_option maxRecDepth 100000 in
set_option maxHeartbeats 4000000 in
theorem search_any (n : Nat) (P : Nat → Bool) (F : FuncId) (cF : Array Value) (w : World) (hn : n ≤ 1000000)
    (hP : ∀ (i : Nat) (wx : World), i < n → Below w.heap.size w wx → Calls Try.prog F (#[.int .i64 (i : Int)] ++ cF) wx fun e w' => e = .returned (.bool (P i)) ∧ Below wx.heap.size wx w')
    (hcF : ∀ (args : Array Value) (wx : World), (callFunc F args).run Try.prog wx = .ok (.enter F args) wx) :
    Calls Try.prog 33 #[.int .i64 (n : Int), .func (.func F) #[] cF] w fun e w' => ∃ k : Nat, k ≤ n ∧ e = .returned (.int .i64 (k : Int)) ∧ (0 < k → P (k - 1) = false) ∧ Below w.heap.size w w' := by
  have HP := Lib.hid hP
  clear hP
  go_enter Try.func33, Try.ntmps33
  go_wp2
  go_loopw [5, 6] (fun x y wr => ∃ i j : Nat, i ≤ j ∧ j ≤ n ∧ x = .int .i64 (i : Int) ∧ y = .int .i64 (j : Int) ∧ Hid (0 < i → P (i - 1) = false) ∧ Hid (Below w.heap.size w wr)) (fun x y _ => (intOf y - intOf x).toNat)
  case atStart => exact ⟨0, n, by omega, by omega, rfl, rfl, Lib.hid (fun h => by omega), Lib.hid (Below.refl _ _)⟩
  case round =>
    rename_i wr hrel
    obtain ⟨i, j, hij, hj, rfl, rfl, HI, HB⟩ := hrel
    by_cases hlt : i < j
    · have hlti : (i : Int) < (j : Int) := by omega
      go_wp2_with fail
      have hmid : ((i : Int) + (j : Int)) / 2 = (((i + j) / 2 : Nat) : Int) := by omega
      rw [hmid]
      have h1 : i ≤ (i + j) / 2 := by omega
      have h2 : (i + j) / 2 < j := by omega
      clear hmid
      generalize (i + j) / 2 = h at *
      refine (HP.out h wr (by omega) HB.out).mono ?_
      rintro e w2 ⟨rfl, hb2⟩
      have HB2 := Lib.hid (below_next HB.out hb2)
      clear hb2
      cases hPh : P h with
      | false =>
        have HPh := Lib.hid hPh
        clear hPh
        go_wp2
        go_roundw
        case rel => exact ⟨h + 1, j, by omega, hj, by simp only [Value.int.injEq, true_and]; omega, rfl, Lib.hid (fun _ => HPh.out), HB2⟩
        case measure => simp [intOf]; omega
      | true =>
        clear hPh
        go_wp2
        go_roundw
        case rel => exact ⟨i, h, by omega, by omega, rfl, rfl, HI, HB2⟩
        case measure => simp [intOf]; omega
    · have hlti : ¬ (i : Int) < (j : Int) := by omega
      go_wp2
      go_ret
      exact ⟨i, by omega, rfl, HI.out, HB.out⟩
end Go.Proofs.Ytbfjcpblbmlfcaa
