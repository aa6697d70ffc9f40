/- The document's Fixed. -/
import Derived.Test.YtbfjcpblbmlfcaaBkFix
namespace Go.Proofs.Ytbfjcpblbmlfcaa
open Go.RowKit
/-- A low byte of a number. -/
theorem low_byte (n k : Nat) : ((n / 256 ^ k : Nat) : Int) % 256 = ((n / 256 ^ k % 256 : Nat) : Int) := by simp
set_option maxRecDepth 100000 in
theorem rfixed_in (n k : Nat) (hn : n < 18446744073709551616) (h1 : 1 ≤ k) (h8 : k ≤ 8) (w : World) :
    Calls Try.prog 25 #[.int .u64 (n : Int), .int .i64 (k : Int)] w (GivesBytes w (Cd.lowTo n k).reverse) := by
  have hk1 : ¬ (k : Int) < 1 := by omega
  have hk8 : ¬ 8 < (k : Int) := by omega
  have Hn := Lib.hid hn
  clear hn
  go_enter Try.func25, Try.ntmps25
  go_wp2
  go_loopw [0, 5, 6] (fun u v i wr => ∃ (j cap : Nat) (A : Option Addr), j ≤ k ∧ u = .int .u64 ((n / 256 ^ j : Nat) : Int) ∧ i = .int .i64 (j : Int) ∧ v = .slice A j cap ∧ Own wr w.heap.size A j cap (Cd.lowTo n j) ∧ Below w.heap.size w wr) (fun _ _ i _ => k - (intOf i).toNat)
  case atStart => exact ⟨0, 0, none, by omega, by simp, rfl, rfl, Own.none_ w w.heap.size, Below.refl _ _⟩
  case round =>
    obtain ⟨j, cap, A, hj, rfl, rfl, rfl, ho, hb⟩ := hrel
    have hsz := hb.size
    by_cases hlt : j < k
    · obtain ⟨c, hc⟩ : ∃ c, c = n / 256 ^ j := ⟨_, rfl⟩
      have hc64 : c < 18446744073709551616 := by rw [hc]; exact Nat.lt_of_le_of_lt (Nat.div_le_self _ _) Hn.out
      obtain ⟨y, hy⟩ : ∃ y, y = c % 256 := ⟨_, rfl⟩
      have hyi : (c : Int) % 256 = (y : Int) := by omega
      have hy2 : y < 256 := by omega
      have hrn := rd_one wr y hy2
      have hw : IntKind.u64.wrap ((c : Int) / 256) = (c : Int) / 256 := wrap_div c 256 hc64
      have hj9 : j < 9 := by omega
      have hjk : (j : Int) < (k : Int) := by omega
      rw [← hc]
      have Hy := Lib.hid hy
      have Hc := Lib.hid hc
      clear hy hc hc64
      go_wp2_with (first | (at_builtin; refine wpList_appB rfl (.tmp 20) (.tmp 24) rfl rfl (ho.alloc _) (some ⟨wr.heap.size, 0, none⟩) 1 1 [y] rfl hrn (by omega) (Nat.le_trans hsz (size_alloc_le _ _)) ?_; intro A3 cap3 w3 hg3))
      go_roundw
      case rel =>
        refine ⟨j + 1, cap3, A3, by omega, ?_, by go_num, rfl, ?_, hg3.below (hb.alloc hsz _) (Nat.le_trans hsz (size_alloc_le _ _)) (fun g hg => (ho.blk g hg).1)⟩
        · rw [Nat.pow_succ, ← Nat.div_div_eq_div_mul, ← Hc.out]; go_num
        · have h3 := hg3.own
          show Own w3 _ _ _ _ (Cd.lowTo n j ++ [n / 256 ^ j % 256])
          rw [← Hc.out, ← Hy.out]
          exact h3
      case measure => simp [intOf]; omega
    · have hjk : j = k := by omega
      subst hjk
      have hll := Cd.lowTo_length n j
      obtain ⟨w1, rfl⟩ : ∃ w1 : World, w1 = wr := ⟨_, rfl⟩
      have Ho := Lib.hid ho
      have Hb := Lib.hid hb
      have Hll := Lib.hid hll
      clear ho hb hll
      generalize n / 256 ^ j = c0
      go_wp2
      go_loopw [7, 8] (fun v i v2 => ∃ (r cap2 : Nat) (A2 : Option Addr), r ≤ j ∧ i = .int .i64 ((r : Int) - 1) ∧ v = .slice A2 (j - r) cap2 ∧ Own v2 w1.heap.size A2 (j - r) cap2 ((Cd.lowTo n j).reverse.take (j - r)) ∧ Below w1.heap.size w1 v2) (fun _ i _ => (intOf i + 1).toNat)
      case atStart => exact ⟨j, 0, none, by omega, rfl, by rw [Nat.sub_self], by rw [Nat.sub_self]; exact Own.none_ w1 w1.heap.size, Below.refl _ _⟩
      case round =>
        obtain ⟨r, cap2, A2, hr, rfl, rfl, ho2, hb2⟩ := hrel
        have hsz2 := hb2.size
        by_cases h0 : 0 < r
        · obtain ⟨q, rfl⟩ : ∃ q, r = q + 1 := ⟨r - 1, by omega⟩
          have hrd := Ho.out.rd.below hb2
          obtain ⟨b, o, x, rfl, hbl, hx, hx2, hcell⟩ := hrd.at_ (k := q) (by omega)
          have hi0 : ((q + 1 : Nat) : Int) - 1 = (q : Int) := by omega
          have hqj : (q : Int) < (j : Int) := by omega
          have hrn := rd_one wr x hx2
          have hx2i : (x : Int) < 256 := by omega
          have Hx := Lib.hid hx
          have hjq : j - (q + 1) ≤ 8 := by omega
          clear hx
          go_wp2_with (first | (at_builtin; refine wpList_appB rfl (.tmp 34) (.tmp 39) rfl rfl (ho2.alloc _) (some ⟨wr.heap.size, 0, none⟩) 1 1 [x] rfl hrn (by omega) (Nat.le_trans hsz2 (size_alloc_le _ _)) ?_; intro A3 cap3 w3 hg3))
          go_roundw
          case rel =>
            refine ⟨q, cap3, A3, by omega, by go_num, ?_, ?_, hg3.below (hb2.alloc hsz2 _) (Nat.le_trans hsz2 (size_alloc_le _ _)) (fun g hg => (ho2.blk g hg).1)⟩
            · rw [show j - q = j - (q + 1) + 1 by omega]
            · have h3 := hg3.own
              have e : (Cd.lowTo n j).reverse[j - (q + 1)]? = some x := by
                rw [List.getElem?_reverse (by rw [Hll.out]; omega), Hll.out, show j - 1 - (j - (q + 1)) = q by omega]
                exact Hx.out
              rw [show j - q = j - (q + 1) + 1 by omega, take_snoc e]
              exact h3
          case measure => simp [intOf] <;> omega
        · have hr0 : r = 0 := by omega
          subst hr0
          go_wp2
          go_ret
          have hlr : (Cd.lowTo n j).reverse.length = j := by rw [List.length_reverse, Hll.out]
          have ho3 : Own wr w1.heap.size A2 j cap2 (Cd.lowTo n j).reverse := by
            rw [Nat.sub_zero, List.take_of_length_le (Nat.le_of_eq hlr)] at ho2
            exact ho2
          refine ⟨A2, cap2, ?_⟩
          rw [hlr]
          exact ⟨rfl, own_base ho3 Hb.out.size, below_next Hb.out hb2⟩
end Go.Proofs.Ytbfjcpblbmlfcaa
