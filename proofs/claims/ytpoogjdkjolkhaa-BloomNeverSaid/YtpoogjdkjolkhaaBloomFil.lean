/- Filters as Make makes them: they are filters, have each key, and of no more bits set than probes for each. -/
import Derived.Test.YtpoogjdkjolkhaaBloomRMake
import Derived.Test.YtpoogjdkjolkhaaBloomRHas
import Derived.Test.YtpoogjdkjolkhaaBloomRCount
import Derived.Test.YtpoogjdkjolkhaaBloomAwake
import Derived.Test.YtpoogjdkjolkhaaBloomFew
import Derived.Test.YtpoogjdkjolkhaaInStrs
namespace Go.Proofs.Ytpoogjdkjolkhaa
open Go.RowKit
theorem filter_length (cs : List Nat) (m p : Nat) : (Bl.filter cs m p).length = 1 + m / 8 := by
  unfold Bl.filter; rw [List.length_cons, Bl.field_length]; omega
theorem filter_lt (cs : List Nat) (m p : Nat) (hp : p < 256) : ∀ x ∈ Bl.filter cs m p, x < 256 := by
  intro x hx
  rcases List.mem_cons.1 hx with h | h
  · omega
  · exact Bl.field_lt _ _ x h
theorem filter_bits (cs : List Nat) (m p : Nat) (h1 : 64 ≤ m) (h2 : m ≤ 65536) (h3 : m % 8 = 0) : bitsI (Bl.filter cs m p).length = (m : Int) := by
  rw [filter_length]; unfold bitsI; rw [IntKind.wrap_i64]; omega
theorem filter_is (cs : List Nat) (m p : Nat) (h1 : 64 ≤ m) (h2 : m ≤ 65536) (h3 : m % 8 = 0) (h4 : 1 ≤ p) (h5 : p ≤ 16) : isF (Bl.filter cs m p) = true := by
  unfold isF
  rw [filter_bits cs m p h1 h2 h3, decide_eq_true_iff]
  have : (Bl.filter cs m p).getD 0 0 = p := rfl
  rw [this]; omega
theorem filter_hasF (ks : List ByteArray) (m p : Nat) (h1 : 64 ≤ m) (h2 : m ≤ 65536) (h3 : m % 8 = 0) (h4 : 1 ≤ p) (h5 : p ≤ 16) (s : ByteArray) (hs : s ∈ ks) : hasF (Bl.filter (ks.map hashN) m p) s = true := by
  unfold hasF
  rw [filter_is _ m p h1 h2 h3 h4 h5, filter_bits _ m p h1 h2 h3, Int.toNat_natCast, Bool.true_and]
  have : (Bl.filter (ks.map hashN) m p).getD 0 0 = p := rfl
  rw [this]
  exact Bl.filter_has _ _ _ _ (List.mem_map.2 ⟨s, hs, rfl⟩) (by omega) h3
theorem filter_cnt (cs : List Nat) (m p : Nat) (h1 : 64 ≤ m) (h2 : m ≤ 65536) (h3 : m % 8 = 0) : ∃ c : Nat, cntI ((Bl.filter cs m p).drop 1) = (c : Int) ∧ c ≤ p * cs.length := by
  refine ⟨Bl.count (Bl.field (Bl.has (Bl.all cs m p)) (m / 8)), ?_, ?_⟩
  · have h := Bl.count_le (Bl.field (Bl.has (Bl.all cs m p)) (m / 8))
    rw [Bl.field_length] at h
    show wrap64 (Bl.count (Bl.field (Bl.has (Bl.all cs m p)) (m / 8)) : Int) = _
    unfold wrap64; omega
  · rw [← Bl.all_length]
    exact Bl.count_field _ _ (fun q hq => by have := Bl.all_lt cs m p (by omega) q hq; omega)
theorem makeF_in (ks : List ByteArray) (b : Nat) (hb1 : 1 ≤ b) (hb : b ≤ 16) (hk : ks.length ≤ 4096) : makeF ks (b : Int) = (Bl.filter (ks.map hashN) (Bl.sizeOf ks.length b) (Bl.probesOf b), 0) := by
  unfold makeF
  rw [if_neg (by omega), if_neg (by omega), Int.toNat_natCast]
end Go.Proofs.Ytpoogjdkjolkhaa
