/- What lay within frame's Encode does: a number's bytes into the array, at the place that is kept. -/
import Derived.Test.YtcckhdmdklholaaFrREnc
import Derived.Test.YtcckhdmdklholaaCh
namespace Go.Proofs.Ytcckhdmdklholaa
open Go.RowKit Fr
set_option linter.unusedVariables false
def Laid (g a : Nat) (w : World) (l : List Nat) (at_ : Nat) (e : Ending) (w' : World) : Prop :=
  e = .returned (.tuple #[]) ∧ Arr w' g l ∧ Holds w' a [.int .i64 (at_ : Int)] ∧ Ch2 g a w w'
set_option maxRecDepth 100000 in
set_option maxHeartbeats 1000000 in
theorem lay_any (n k r : Nat) (g a : Nat) (X : List Nat) (w : World) (hg : Arr w g (X ++ List.replicate r 0)) (ha : Holds w a [.int .i64 (X.length : Int)]) (hne : g ≠ a) (hX : X.length + r = 128) (hk : k ≤ r) (hk8 : k ≤ 8) (hn : n < 9223372036854775808) :
    Calls Try.prog 20 #[.int .i64 (n : Int), .int .i64 (k : Int), .pointer (some ⟨g, 0, none⟩), .pointer (some ⟨a, 0, none⟩)] w (Laid g a w (X ++ le k n ++ List.replicate (r - k) 0) (X.length + k)) := by
  have HG := Lib.hid hg
  have HA := Lib.hid ha
  clear hg ha
  go_enter Try.func20, Try.ntmps20
  go_wp2
  go_loopw [0, 7] (fun m i wr => ∃ (j q : Nat), j ≤ k ∧ i = .int .i64 (j : Int) ∧ m = .int .i64 (q : Int) ∧ q ≤ n ∧ Hid (q = n / 256 ^ j) ∧ Arr wr g (X ++ le j n ++ List.replicate (r - j) 0) ∧ Holds wr a [.int .i64 ((X.length + j : Nat) : Int)] ∧ Ch2 g a w wr) (fun _ i _ => k - (intOf i).toNat)
  case atStart => exact ⟨0, n, by omega, rfl, rfl, Nat.le_refl _, Lib.hid (by simp), by simpa [le] using HG.out, by simpa using HA.out, Ch2.refl _ _ _⟩
  case round =>
    obtain ⟨j, q, hj, rfl, rfl, hqn, hQ, hG, hA, hC⟩ := hrel
    by_cases hjk : j < k
    · have hji : (j : Int) < (k : Int) := by omega
      have hqi : (q : Int) ≤ 9223372036854775807 := by omega
      obtain ⟨t, ht⟩ : ∃ t, t = X.length + j := ⟨_, rfl⟩
      have htk : t < 128 := by omega
      rw [← ht] at hA
      have hlen : (X ++ le j n).length = t := by rw [List.length_append, le_len, ht]
      have hat : (X ++ le j n ++ List.replicate (r - j) 0)[t]? = some 0 := by
        rw [List.getElem?_append_right (by omega), hlen, Nat.sub_self, List.getElem?_replicate, if_pos (by omega)]
      have cg := hG.cell hat
      have fg := hG.free t
      have ca := hA.at_ 0 rfl
      have fa := hA.2.2 0
      have hset := hG.set t (q % 256) (Nat.mod_lt _ (by omega))
      have hnew : (X ++ le j n ++ List.replicate (r - j) 0).set t (q % 256) = X ++ le (j + 1) n ++ List.replicate (r - (j + 1)) 0 := by
        rw [List.set_append_right _ _ (by omega), hlen, Nat.sub_self, le_snoc, ← hQ.out, show r - j = (r - (j + 1)) + 1 by omega, List.replicate_succ, List.set_cons_zero]
        simp
      rw [hnew] at hset
      have hA2 := (hA.other (b := g) (i := t) (v := .int .u8 ((q % 256 : Nat) : Int)) (fun e => hne e.symm)).set 0 (.int .i64 ((t + 1 : Nat) : Int)) (by simp)
      have hG2 := hset.other (p := ⟨a, 0, none⟩) (fun e => hne e.symm) (.int .i64 ((t + 1 : Nat) : Int))
      have hC2 := (hC.trans (Ch2.set1 g a t wr (.int .u8 ((q % 256 : Nat) : Int)))).trans (Ch2.set2 g a 0 _ (.int .i64 ((t + 1 : Nat) : Int)))
      have ca2 : (wr.setCell ⟨g, t, none⟩ (.int .u8 ((q % 256 : Nat) : Int))).cell? ⟨a, 0, none⟩ = some (.int .i64 (t : Int)) := (hA.other (b := g) (i := t) (v := .int .u8 ((q % 256 : Nat) : Int)) (fun e => hne e.symm)).at_ 0 rfl
      have hti : (t : Int) < 128 := by omega
      have HNext := Lib.hid (show q / 256 = n / 256 ^ (j + 1) by rw [hQ.out, Nat.div_div_eq_div_mul, Nat.pow_succ])
      have HT := Lib.hid ht
      have HG2 := Lib.hid hG2
      have HA2 := Lib.hid hA2
      have HC2 := Lib.hid hC2
      rw [show ((q % 256 : Nat) : Int) = (q : Int) % 256 by omega] at ca2
      clear hat hset hnew hG hA hG2 hA2 hC2 hC ht hlen
      go_wp2_with fail
      have e1 : ((q % 256 : Nat) : Int) = (q : Int) % 256 := by omega
      have e2 : ((t + 1 : Nat) : Int) = (t : Int) + 1 := by omega
      have hG3 := HG2.out
      have hA3 := HA2.out
      have hC3 := HC2.out
      rw [e1, e2] at hG3 hA3 hC3
      have hA4 : Holds ((wr.setCell ⟨g, t, none⟩ (.int .u8 ((q : Int) % 256))).setCell ⟨a, 0, none⟩ (.int .i64 ((t : Int) + 1))) a [.int .i64 ((X.length + (j + 1) : Nat) : Int)] := by
        rw [show ((X.length + (j + 1) : Nat) : Int) = (t : Int) + 1 by rw [HT.out]; omega]
        exact hA3
      clear e1 e2 hA3
      go_roundw
      case rel => exact ⟨j + 1, q / 256, by omega, by go_num, by rw [show ((q / 256 : Nat) : Int) = (q : Int) / 256 by omega], Nat.le_trans (Nat.div_le_self _ _) hqn, Lib.hid HNext.out, hG3, hA4, hC3⟩
      case measure => simp [intOf]; omega
    · have hjk2 : j = k := by omega
      subst hjk2
      go_wp2
      go_end0
      exact ⟨rfl, hG, hA, hC⟩
end Go.Proofs.Ytcckhdmdklholaa
