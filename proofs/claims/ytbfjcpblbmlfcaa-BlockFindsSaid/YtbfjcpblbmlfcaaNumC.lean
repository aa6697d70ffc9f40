/- What package code's own Num, own, number and TakeNum of layer 2 return: for every argument in its kind. -/
import Derived.Test.YtbfjcpblbmlfcaaNumB
import Derived.Test.YtbfjcpblbmlfcaaBits
namespace Go.Proofs.Ytbfjcpblbmlfcaa
open Go.RowKit
set_option maxRecDepth 100000 in
theorem num_any (n : Nat) (hn : n < 18446744073709551616) (w : World) :
    Calls Try.prog 22 #[.int .u64 (n : Int)] w (GivesBytes w (Cd.num n)) := by
  have Hn := Lib.hid (And.intro hn (num_start n hn))
  clear hn
  go_enter Try.func22, Try.ntmps22
  go_wp2
  go_loopw [0, 3] (fun u v wr => ∃ (cur f cap : Nat) (A : Option Addr) (acc : List Nat), acc.length + f ≤ 10 ∧ u = .int .u64 (cur : Int) ∧ v = .slice A acc.length cap ∧ Own wr w.heap.size A acc.length cap acc ∧ Below w.heap.size w wr ∧ Hid (cur < 18446744073709551616 ∧ cur < 128 ^ f * 128 ∧ acc ++ Cd.numF f cur = Cd.num n)) (fun u _ _ => (intOf u).toNat)
  case atStart => exact ⟨n, 10, 0, none, [], by simp, rfl, rfl, Own.none_ w w.heap.size, Below.refl _ _, Lib.hid ⟨Hn.out.1, Hn.out.2, rfl⟩⟩
  case round =>
    obtain ⟨cur, f, cap, A, acc, hlen, rfl, rfl, ho, hb, hH⟩ := hrel
    have hsz := hb.size
    by_cases h128 : 128 ≤ cur
    · obtain ⟨f', rfl⟩ : ∃ f', f = f' + 1 := by
        cases f with
        | zero => exact absurd hH.out.2.1 (by omega)
        | succ f' => exact ⟨f', rfl⟩
      obtain ⟨y, hy⟩ : ∃ y : Nat, y = cur % 128 + 128 := ⟨_, rfl⟩
      have hyi : bits .or .u8 ((cur : Int) % 256) 128 = (y : Int) := by rw [or128, hy]
      have hy2 : y < 256 := by omega
      have hrn := rd_one wr y hy2
      have Hy := Lib.hid hy
      clear hy
      have hlen2 : acc.length ≤ 10 := by omega
      go_wp2_with (first | (at_builtin; refine wpList_appB rfl (.tmp 8) (.tmp 12) rfl rfl (ho.alloc _) (some ⟨wr.heap.size, 0, none⟩) 1 1 [y] rfl hrn (by omega) (Nat.le_trans hsz (size_alloc_le _ _)) ?_; intro A3 cap3 w3 hg3))
      go_roundw
      case rel =>
        have hl3 : (acc ++ [y]).length = acc.length + 1 := by rw [List.length_append]; rfl
        refine ⟨cur / 128, f', cap3, A3, acc ++ [y], by omega, by go_num, by rw [hl3], by rw [hl3]; exact hg3.own, hg3.below (hb.alloc hsz _) (Nat.le_trans hsz (size_alloc_le _ _)) (fun g hg => (ho.blk g hg).1), Lib.hid ⟨?_, ?_, ?_⟩⟩
        · have h1 := hH.out.1
          omega
        · have h1 := hH.out.2.1
          rw [Nat.pow_succ] at h1
          omega
        · have h2 := hH.out.2.2
          rw [Cd.numF_big (by omega)] at h2
          rw [Hy.out, List.append_assoc]
          exact h2
      case measure => simp [intOf]; omega
    · have hc8 : (cur : Int) < 256 := by omega
      have hrn := rd_one wr cur (by omega)
      have hlen2 : acc.length ≤ 10 := by omega
      go_wp2_with (first | (at_builtin; refine wpList_appB rfl (.tmp 14) (.tmp 17) rfl rfl (ho.alloc _) (some ⟨wr.heap.size, 0, none⟩) 1 1 [cur] rfl hrn (by omega) (Nat.le_trans hsz (size_alloc_le _ _)) ?_; intro A3 cap3 w3 hg3))
      go_ret
      have h2 := hH.out.2.2
      rw [Cd.numF_small (by omega)] at h2
      have hl3 : (Cd.num n).length = acc.length + 1 := by rw [← h2, List.length_append]; rfl
      refine ⟨A3, cap3, ?_⟩
      rw [hl3, ← h2]
      exact ⟨rfl, hg3.own, hg3.below (hb.alloc hsz _) (Nat.le_trans hsz (size_alloc_le _ _)) (fun g hg => (ho.blk g hg).1)⟩
set_option maxRecDepth 100000 in
theorem own_any (A : Option Addr) (n cap : Nat) (l : List Nat) (w : World) (hl : Rd w A n l) (hn : n ≤ 1000000) :
    Calls Try.prog 51 #[.slice A n cap] w (GivesBytes w l) := by
  have Hl := Lib.hid hl.1
  go_enter Try.func51, Try.ntmps51
  go_wp2_with (first | (at_builtin; refine wpList_appB rfl (.const (.slice none 0 0)) (.tmp 3) rfl rfl (Own.none_ w w.heap.size) A n cap l rfl hl (by omega) (Nat.le_refl _) ?_; intro A3 cap3 w3 hg3))
  go_ret
  have ho := hg3.own
  rw [Nat.zero_add, List.nil_append] at ho

  refine ⟨A3, cap3, ?_⟩
  rw [Hl.out]
  exact ⟨rfl, ho, hg3.below (Below.refl _ _) (Nat.le_refl _) (fun g hg => by simp [Value.ownBlock] at hg)⟩
end Go.Proofs.Ytbfjcpblbmlfcaa
