/- What Seal of package sum and the document's own Seal return: the bytes and their sum behind them, in new memory, for every slice of at most 1,000,000 bytes. -/
import Derived.Test.YtkpojegdeipfhaaOwn
namespace Go.Proofs.Ytkpojegdeipfhaa
open Go.RowKit
namespace Cr
/-- The four bytes of a sum, the lowest first. -/
def byteAt (c k : Nat) : Nat := c / 2 ^ (8 * k) % 256
def le4 (c : Nat) : List Nat := [byteAt c 0, byteAt c 1, byteAt c 2, byteAt c 3]
def sealed (l : List Nat) : List Nat := l ++ le4 (more 0 l)
theorem byteAt_lt (c k : Nat) : byteAt c k < 256 := Nat.mod_lt _ (by omega)
theorem le4_at (c : Nat) {k : Nat} (hk : k < 4) : (le4 c)[k]? = some (byteAt c k) := by
  match k, hk with
  | 0, _ => rfl
  | 1, _ => rfl
  | 2, _ => rfl
  | 3, _ => rfl
theorem le4_lt (c : Nat) : ∀ x ∈ le4 c, x < 256 := by
  intro x hx
  simp only [le4, List.mem_cons, List.not_mem_nil, or_false] at hx
  rcases hx with h | h | h | h <;> (rw [h]; exact byteAt_lt _ _)
theorem le4_length (c : Nat) : (le4 c).length = 4 := rfl
theorem sealed_length (l : List Nat) : (sealed l).length = l.length + 4 := by rw [sealed, List.length_append, le4_length]
end Cr
def GivesBytes (w : World) (l : List Nat) (e : Ending) (w' : World) : Prop :=
  ∃ A cap, e = .returned (.slice A l.length cap) ∧ Own w' w.heap.size A l.length cap l ∧ Below w.heap.size w w'
theorem make_val (n : Nat) (hn : n ≤ 1000000) : ∀ w : World, (Instr.makeSlice 22 (.int .i64 0) (.int .i64 ((n : Int) + 4))).run Try.prog w = .ok (.slice (some ⟨w.heap.size, 0, none⟩) 0 (n + 4)) (w.alloc (.cells (madeCells #[.int .u8 0] (n + 4)) 5)) := by
  intro w
  obtain ⟨i0, hi, hz0, hz1, hz2⟩ := info_parts info5
  have hr := run_make (P := Try.prog) w 22 5 i0 _ Try.underlying22 hi hz0 .i64 .i64 0 (n + 4 : Nat) (by omega) (by omega) (by rw [hz2]; omega) (by omega)
  rw [hz1] at hr
  have e : ((n : Int) + 4) = ((n + 4 : Nat) : Int) := by omega
  rw [e]
  rw [Int.toNat_zero, Int.toNat_natCast, Nat.mul_one] at hr
  exact hr
theorem byte_conv (c k : Nat) : (c : Int) / 2 ^ (8 * k) % 256 = (Cr.byteAt c k : Int) := by
  unfold Cr.byteAt; simp
theorem own_len {w : World} {base n m cap : Nat} {A : Option Addr} {l : List Nat} (h : Own w base A n cap l) (e : n = m) : Own w base A m cap l := by subst e; exact h
set_option maxRecDepth 100000 in
theorem seal_any (A : Option Addr) (n cap : Nat) (l : List Nat) (w : World) (hl : Rd w A n l) (hn : n ≤ 1000000) :
    Calls Try.prog 23 #[.slice A n cap] w (GivesBytes w (Cr.sealed l)) := by
  have hmk := make_val n hn
  have hc := Cr.more_lt (c := 0) hl.2.1 (by omega)
  go_enter Try.func23, Try.ntmps23
  go_wp2_with (first | (at_builtin; refine wpList_appB rfl (.tmp 10) (.tmp 11) rfl rfl (Own.made (base := w.heap.size) w (n + 4) (Nat.le_refl _) (by omega)) A n cap l rfl (hl.alloc _) (by omega) (by simp) ?_; intro A1 cap1 w1 hg1; have hb1 : Below w.heap.size w w1 := hg1.below ((Below.refl _ _).alloc (Nat.le_refl _) _) (by simp) (fun g hg => by simp [Value.ownBlock] at hg; omega)) | (go_at_call 12; refine (of_any A n cap l _ (hl.below hb1) hn).mono ?_; rintro e w2 ⟨rfl, hb2⟩))
  have ho2 := hg1.own.below hb2
  have hb3 : Below w.heap.size w w2 := hb1.trans (hb2.mono hb1.size)
  clear hg1 hb1 hb2 hmk
  go_loopw [3, 15] (fun v i wr => ∃ (k : Nat) (A2 : Option Addr) (cap2 : Nat), k ≤ 4 ∧ i = .int .i64 k ∧ v = .slice A2 (n + k) cap2 ∧ Own wr w.heap.size A2 (n + k) cap2 (l ++ (Cr.le4 (Cr.more 0 l)).take k) ∧ Below w.heap.size w wr) (fun _ i _ => 4 - (intOf i).toNat)
  case atStart => exact ⟨0, A1, cap1, by omega, rfl, rfl, by simpa using ho2, hb3⟩
  case round =>
    obtain ⟨k, A2, cap2, hk, rfl, rfl, ho, hb⟩ := hrel
    by_cases hlt : k < 4
    · have hk2 : (k : Int) < 4 := by omega
      have hbc := byte_conv (Cr.more 0 l) k
      have hrn : Rd (wr.alloc (.cells #[.int .u8 (Cr.byteAt (Cr.more 0 l) k : Int)] 5)) (some ⟨wr.heap.size, 0, none⟩) 1 [Cr.byteAt (Cr.more 0 l) k] :=
        (Own.lit (base := 0) wr [Cr.byteAt (Cr.more 0 l) k] (by simpa using Cr.byteAt_lt _ _) (by omega) (by simp)).rd
      have hsz := hb.size
      go_wp2_with (first | (at_builtin; refine wpList_appB rfl (.tmp 18) (.tmp 24) rfl rfl (ho.alloc _) (some ⟨wr.heap.size, 0, none⟩) 1 1 [Cr.byteAt (Cr.more 0 l) k] rfl hrn (by omega) (by simp; omega) ?_; intro A3 cap3 w3 hg3))
      go_roundw
      case rel =>
        refine ⟨k + 1, A3, cap3, by omega, by go_num, rfl, ?_, hg3.below (hb.alloc hsz _) (by simp; omega) (fun g hg => (ho.blk g hg).1)⟩
        have h := hg3.own
        rw [take_snoc (Cr.le4_at _ hlt), ← List.append_assoc]
        exact h
      case measure => simp [intOf]; omega
    · have hk8 : k = 4 := by omega
      subst hk8
      go_wp2
      go_ret
      have hlen : (Cr.sealed l).length = n + 4 := by rw [Cr.sealed_length, hl.1]
      unfold GivesBytes
      rw [hlen]
      exact ⟨A2, cap2, rfl, ho, hb⟩
theorem byte0 (c : Nat) : (c : Int) % 256 = (Cr.byteAt c 0 : Int) := by unfold Cr.byteAt; simp
theorem byte1 (c : Nat) : (c : Int) / 256 % 256 = (Cr.byteAt c 1 : Int) := by unfold Cr.byteAt; simp
theorem byte2 (c : Nat) : (c : Int) / 65536 % 256 = (Cr.byteAt c 2 : Int) := by unfold Cr.byteAt; simp
theorem byte3 (c : Nat) (h : c < 4294967296) : (c : Int) / 16777216 = (Cr.byteAt c 3 : Int) := by
  unfold Cr.byteAt
  rw [show 2 ^ (8 * 3) = 16777216 by decide]
  omega
set_option maxRecDepth 100000 in
theorem rseal_any (A : Option Addr) (n cap : Nat) (l : List Nat) (w : World) (hl : Rd w A n l) (hn : n ≤ 1000000) :
    Calls Try.prog 24 #[.slice A n cap] w (GivesBytes w (Cr.sealed l)) := by
  have hc := Cr.more_lt (c := 0) hl.2.1 (by omega)
  have b0 := byte0 (Cr.more 0 l)
  have b1 := byte1 (Cr.more 0 l)
  have b2 := byte2 (Cr.more 0 l)
  have b3 := byte3 (Cr.more 0 l) hc
  have hrn := fun (w1 : World) => (Own.lit (base := 0) w1 (Cr.le4 (Cr.more 0 l)) (Cr.le4_lt _) (by omega) (by simp [Cr.le4_length])).rd
  have Hrn := Lib.hid hrn
  clear hrn
  go_enter Try.func24, Try.ntmps24
  go_wp2_with (first | (go_at_call 13; refine (rof_any A n cap l _ hl hn).mono ?_; rintro e w2 ⟨rfl, rfl⟩) | (at_builtin; refine wpList_appB rfl (.tmp 6) (.tmp 7) rfl rfl (Own.lit (base := w.heap.size) w [] (by simp) (Nat.le_refl _) (by simp)) A n cap l rfl (hl.alloc _) (by simp; omega) (by simp) ?_; intro A1 cap1 w1 hg1; have hb1 : Below w.heap.size w w1 := hg1.below ((Below.refl _ _).alloc (Nat.le_refl _) _) (by simp) (fun g hg => by simp [Value.ownBlock] at hg; omega); have hs1 := hb1.size; have ho1 : Own w1 w.heap.size A1 n cap1 l := by simpa using hg1.own) | (at_builtin; refine wpList_appB rfl (.tmp 8) (.tmp 20) rfl rfl (ho1.alloc _) (some ⟨w1.heap.size, 0, none⟩) 4 4 (Cr.le4 (Cr.more 0 l)) rfl (Hrn.out w1) (by simp; omega) (by simp; omega) ?_; intro A2 cap2 w2 hg2))
  go_ret
  have hb2 := hg2.below (B := w.heap.size) (hb1.alloc hs1 _) (by simp; omega) (fun g hg => (ho1.blk g hg).1)
  have hlen : (Cr.sealed l).length = n + 4 := by rw [Cr.sealed_length, hl.1]
  unfold GivesBytes
  rw [hlen]
  exact ⟨A2, cap2, rfl, hg2.own, hb2⟩
end Go.Proofs.Ytkpojegdeipfhaa
