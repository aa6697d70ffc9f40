/- What the document's own Num returns; how a take ends. -/
import Derived.Test.YtbfjcpblbmlfcaaBytes
import Derived.Test.YtbfjcpblbmlfcaaCodeMath
namespace Go.Proofs.Ytbfjcpblbmlfcaa
open Go.RowKit
/-- A new row of one byte reads as it. -/
theorem rd_one (w : World) (x : Nat) (hx : x < 256) : Rd (w.alloc (.cells #[.int .u8 (x : Int)] 5)) (some ⟨w.heap.size, 0, none⟩) 1 [x] := rd_new w [x] (by simpa using hx) (0, 0)
theorem wrap_div (c k : Nat) (h : c < 18446744073709551616) : IntKind.u64.wrap ((c : Int) / (k : Int)) = (c : Int) / (k : Int) := by
  have e : (c : Int) / (k : Int) = ((c / k : Nat) : Int) := by simp
  have h2 : c / k ≤ c := Nat.div_le_self _ _
  rw [e, IntKind.wrap_u64]
  generalize c / k = d at h2 ⊢
  omega
theorem num_start (n : Nat) (hn : n < 18446744073709551616) : n < 128 ^ 10 * 128 := by
  rw [show 128 ^ 10 * 128 = 151115727451828646838272 by decide]; omega
set_option maxRecDepth 100000 in
theorem rnum_any (n : Nat) (hn : n < 18446744073709551616) (w : World) :
    Calls Try.prog 27 #[.int .u64 (n : Int)] w (GivesBytes w (Cd.num n)) := by
  have Hn := Lib.hid (And.intro hn (num_start n hn))
  clear hn
  go_enter Try.func27, Try.ntmps27
  go_wp2
  go_loopw [0, 3] (fun u v wr => ∃ (cur f cap : Nat) (A : Option Addr) (acc : List Nat), acc.length + f ≤ 10 ∧ u = .int .u64 (cur : Int) ∧ v = .slice A acc.length cap ∧ Own wr w.heap.size A acc.length cap acc ∧ Below w.heap.size w wr ∧ Hid (cur < 18446744073709551616 ∧ cur < 128 ^ f * 128 ∧ acc ++ Cd.numF f cur = Cd.num n)) (fun u _ _ => (intOf u).toNat)
  case atStart => exact ⟨n, 10, 0, none, [], by simp, rfl, rfl, Own.none_ w w.heap.size, Below.refl _ _, Lib.hid ⟨Hn.out.1, Hn.out.2, rfl⟩⟩
  case round =>
    obtain ⟨cur, f, cap, A, acc, hlen, rfl, rfl, ho, hb, hH⟩ := hrel
    have hsz := hb.size
    by_cases h128 : 128 ≤ cur
    · obtain ⟨f', rfl⟩ : ∃ f', f = f' + 1 := by
        cases f with
        | zero => exact absurd hH.out.2.1 (by omega)
        | succ f' => exact ⟨f', rfl⟩
      obtain ⟨y, hy⟩ : ∃ y : Nat, y = cur % 128 + 128 := ⟨_, rfl⟩
      have hyi : (cur : Int) % 128 + 128 = (y : Int) := by omega
      have hy2 : y < 256 := by omega
      have hrn := rd_one wr y hy2
      have Hy := Lib.hid hy
      clear hy
      have hlen2 : acc.length ≤ 10 := by omega
      have hw : IntKind.u64.wrap ((cur : Int) / 128) = (cur : Int) / 128 := wrap_div cur 128 hH.out.1
      go_wp2_with (first | (at_builtin; refine wpList_appB rfl (.tmp 6) (.tmp 11) rfl rfl (ho.alloc _) (some ⟨wr.heap.size, 0, none⟩) 1 1 [y] rfl hrn (by omega) (Nat.le_trans hsz (size_alloc_le _ _)) ?_; intro A3 cap3 w3 hg3))
      go_roundw
      case rel =>
        have hl3 : (acc ++ [y]).length = acc.length + 1 := by rw [List.length_append]; rfl
        refine ⟨cur / 128, f', cap3, A3, acc ++ [y], by omega, by go_num, by rw [hl3], by rw [hl3]; exact hg3.own, hg3.below (hb.alloc hsz _) (Nat.le_trans hsz (size_alloc_le _ _)) (fun g hg => (ho.blk g hg).1), Lib.hid ⟨?_, ?_, ?_⟩⟩
        · have h1 := hH.out.1
          omega
        · have h1 := hH.out.2.1
          rw [Nat.pow_succ] at h1
          omega
        · have h2 := hH.out.2.2
          rw [Cd.numF_big (by omega)] at h2
          rw [Hy.out, List.append_assoc]
          exact h2
      case measure => simp [intOf]; omega
    · have hc8 : (cur : Int) < 256 := by omega
      have hrn := rd_one wr cur (by omega)
      have hlen2 : acc.length ≤ 10 := by omega
      go_wp2_with (first | (at_builtin; refine wpList_appB rfl (.tmp 15) (.tmp 18) rfl rfl (ho.alloc _) (some ⟨wr.heap.size, 0, none⟩) 1 1 [cur] rfl hrn (by omega) (Nat.le_trans hsz (size_alloc_le _ _)) ?_; intro A3 cap3 w3 hg3))
      go_ret
      have h2 := hH.out.2.2
      rw [Cd.numF_small (by omega)] at h2
      have hl3 : (Cd.num n).length = acc.length + 1 := by rw [← h2, List.length_append]; rfl
      refine ⟨A3, cap3, ?_⟩
      rw [hl3, ← h2]
      exact ⟨rfl, hg3.own, hg3.below (hb.alloc hsz _) (Nat.le_trans hsz (size_alloc_le _ _)) (fun g hg => (ho.blk g hg).1)⟩
theorem own_base {w : World} {base base' n cap : Nat} {A : Option Addr} {l : List Nat} (h : Own w base A n cap l) (hb : base' ≤ base) : Own w base' A n cap l := by
  refine ⟨h.1, h.2.1, h.2.2.1, ?_⟩
  rcases h.2.2.2 with hn | ⟨g, c, cur, hv, hbg, rest⟩
  · exact .inl hn
  · exact .inr ⟨g, c, cur, hv, Nat.le_trans hb hbg, rest⟩
/-- How a Take ends: a number, what stands behind it, and true; or 0, nothing, false. -/
def GivesTake (w : World) (o : Option (Nat × List Nat)) (e : Ending) (w' : World) : Prop :=
  match o with
  | none => e = .returned (.tuple #[.int .u64 0, .slice none 0 0, .bool false]) ∧ Below w.heap.size w w'
  | some (v, r) => ∃ A cap, e = .returned (.tuple #[.int .u64 (v : Int), .slice A r.length cap, .bool true]) ∧ Rd w' A r.length r ∧ r.length ≤ cap ∧ Below w.heap.size w w'
theorem drop_rd {w : World} {b o n : Nat} {l : List Nat} (h : Rd w (some ⟨b, o, none⟩) n l) {k : Nat} (hk : k ≤ n) : Rd w (some ⟨b, o + k, none⟩) (n - k) (l.drop k) := by
  refine ⟨by rw [List.length_drop, h.1], fun x hx => h.2.1 x (List.mem_of_mem_drop hx), fun hn => ?_⟩
  obtain ⟨b', o', he, hb, hc⟩ := h.2.2 (by omega)
  injection he with he
  injection he with e1 e2
  subst e1 e2
  refine ⟨b, o + k, rfl, hb, fun j x hx => ?_⟩
  rw [List.getElem?_drop] at hx
  rw [Nat.add_assoc]
  exact hc _ x hx
end Go.Proofs.Ytbfjcpblbmlfcaa
