/- The chapter's example. -/
import Derived.Test.YtbfjcpblbmlfcaaBkDec
namespace Go.Proofs.Ytbfjcpblbmlfcaa
open Go.RowKit
namespace Bk
def ex (A : Option Addr) (c : Nat) : List (En × Sl) := [(⟨⟨#[97, 98]⟩, 1, false, [120]⟩, A, 1, c), (⟨⟨#[97, 99]⟩, 1, true, []⟩, none, 0, 0)]
def exB : List Nat := [0, 2, 97, 98, 2, 1, 120, 1, 1, 99, 3, 0, 0, 2]
set_option maxRecDepth 100000 in
theorem ex_fine (A : Option Addr) (c : Nat) : fine (ex A c) := by
  refine ⟨⟨fun i p hi hp => ?_, fun i p q hi hp hq => ?_⟩, by show 1 ≤ 2; omega, by show 2 ≤ 64; omega⟩
  · have hi : i < 2 := hi
    match i, hi with
    | 0, _ => injection hp with hp; subst hp; show ok ⟨⟨#[97, 98]⟩, 1, false, [120]⟩ = true; decide +kernel
    | 1, _ => injection hp with hp; subst hp; decide +kernel
  · have hi : i + 1 < 2 := hi
    match i, hi with
    | 0, _ => injection hp with hp; injection hq with hq; subst hp hq; show cmp ⟨⟨#[97, 98]⟩, 1, false, [120]⟩ ⟨⟨#[97, 99]⟩, 1, true, []⟩ < 0; decide +kernel
set_option maxRecDepth 100000 in
theorem ex_out (A : Option Addr) (c : Nat) : out (ex A c) = exB := by kernel_rfl
set_option maxRecDepth 100000 in
theorem ex_dec (A : Option Addr) (c : Nat) : dec exB = some ((ex A c).map fun z => z.1) := by kernel_rfl
end Bk
set_option maxRecDepth 100000 in
set_option maxHeartbeats 4000000 in
theorem awake_any (w : World) : Calls Try.prog 11 #[] w fun e w' => e = .returned (.bool true) ∧ Below w.heap.size w w' := by
  have kc := fun (w : World) (C : Array Value) (n c : Nat) => Lib.run_convert_bytes_const (P := Try.prog) w 24 5 C n c Try.underlying24 Try.underlying5
  have hr : RdE ((w.alloc (.cells #[Value.int .u8 120] 5 (1, 2))).alloc (.cells #[Value.string ⟨#[97, 98]⟩, .int .i64 1, .bool false, .slice (some ⟨w.heap.size, 0, none⟩) 1 1, .string ⟨#[97, 99]⟩, .int .i64 1, .bool true, .slice none 0 0] 37)) (some ⟨w.heap.size + 1, 0, none⟩) 2 (Bk.ex (some ⟨w.heap.size, 0, none⟩) 1) := by
    refine ⟨rfl, ?_, fun p hp => ?_⟩
    · have := rdc_new 4 (w.alloc (.cells #[Value.int .u8 120] 5 (1, 2))) 37 (Bk.flat (Bk.ex (some ⟨w.heap.size, 0, none⟩) 1)) 2 rfl (0, 0)
      rw [show (w.alloc (.cells #[Value.int .u8 120] 5 (1, 2))).heap.size = w.heap.size + 1 by simp] at this
      exact this
    · rcases List.mem_cons.1 hp with rfl | hp
      · exact ⟨(rd_new w [120] (by decide) (1, 2)).below ((Below.refl _ _).alloc (Nat.le_refl _) _), Nat.le_refl 1, by show 2 ≤ 1000000; omega, by show (1 : Int) < _; omega, by show _ ≤ (1 : Int); omega, by show 1 ≤ 1000000; omega⟩
      · rcases List.mem_singleton.1 hp with rfl
        exact ⟨Rd.nil _ _, by decide, by decide, by decide, by decide, by decide⟩
  have hb0 : Below w.heap.size w ((w.alloc (.cells #[Value.int .u8 120] 5 (1, 2))).alloc (.cells #[Value.string ⟨#[97, 98]⟩, .int .i64 1, .bool false, .slice (some ⟨w.heap.size, 0, none⟩) 1 1, .string ⟨#[97, 99]⟩, .int .i64 1, .bool true, .slice none 0 0] 37)) := ((Below.refl _ _).alloc (Nat.le_refl _) _).alloc (by simp) _
  have HR := Lib.hid hr
  have HB := Lib.hid hb0
  clear hr hb0
  go_enter Try.func11, Try.ntmps11
  go_wp2_with fail
  generalize ((w.alloc (.cells #[Value.int .u8 120] 5 (1, 2))).alloc (.cells #[Value.string ⟨#[97, 98]⟩, .int .i64 1, .bool false, .slice (some ⟨w.heap.size, 0, none⟩) 1 1, .string ⟨#[97, 99]⟩, .int .i64 1, .bool true, .slice none 0 0] 37)) = v0 at *
  refine (encode_yes _ 2 2 _ v0 HR.out (by omega) (Nat.le_refl _) (Bk.ex_fine _ _)).mono ?_
  rw [Bk.ex_out]
  rintro e v1 ⟨A1, c1, rfl, ho1, hb1⟩
  have HB1 := Lib.hid (HB.out.trans (hb1.mono HB.out.size))
  have hcap := ho1.cap
  have HO1 := Lib.hid ho1
  clear ho1 hb1 kc
  go_wp2_with fail
  refine (decode_any A1 14 c1 Bk.exB v1 HO1.out.rd hcap (by omega)).mono ?_
  rintro e v2 ⟨hb2, hg | ⟨hg, _⟩⟩
  · obtain ⟨B, m, cap, es, ⟨hd, -, -⟩, rfl, hE⟩ := hg
    rw [Bk.ex_dec none 0] at hd
    injection hd with hd
    have hm : m = 2 := by rw [← hE.len, Bk.map_len hd.symm]; rfl
    subst hm
    obtain ⟨q, hq, hq2⟩ := Bk.map_at hd.symm (i := 1) rfl
    obtain ⟨b, o, rfl, -, hcl⟩ := hE.rde.at_ hq
    have hl : v2.cell? ⟨b, o + 6, none⟩ = some (.bool true) := hcl 2 (.bool true) (by show some (Value.bool q.1.del) = _; rw [hq2])
    have hcv := run_str (cap := c1) (HO1.out.rd.below hb2)
    rw [show str Bk.exB = ⟨#[0, 2, 97, 98, 2, 1, 120, 1, 1, 99, 3, 0, 0, 2]⟩ by decide +kernel] at hcv
    have HB2 := Lib.hid (HB1.out.trans (hb2.mono HB1.out.size))
    clear hE hcl hb2 hd hq hq2
    go_wp2
    all_goals
      go_ret
      exact ⟨rfl, HB2.out⟩
  · exact absurd ⟨Bk.ex_dec none 0, Bk.ex_fine none 0, Bk.ex_out none 0⟩ (hg _)
end Go.Proofs.Ytbfjcpblbmlfcaa
