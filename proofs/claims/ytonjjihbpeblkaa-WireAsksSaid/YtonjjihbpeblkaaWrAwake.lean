/- The chapter's example. -/
import Derived.Test.YtonjjihbpeblkaaWrIn
namespace Go.Proofs.Ytonjjihbpeblkaa
open Go.RowKit
set_option maxRecDepth 100000 in
theorem ask_here : Wr.askBytes ⟨2, ⟨#[97]⟩, 0, 300, 0, 0, 0⟩ = some [2, 1, 97, 172, 2] := by decide +kernel
set_option maxRecDepth 100000 in
theorem msg_here : Wr.msgRead [2, 3, 5] = some ⟨2, 3, 5, ⟨#[]⟩, 0⟩ := by decide +kernel
set_option maxRecDepth 100000 in
set_option maxHeartbeats 4000000 in
theorem awake_any (w : World) : Calls Try.prog 14 #[] w fun e w' => e = .returned (.bool true) ∧ Below w.heap.size w w' := by
  have h1 := wbytes_any ⟨2, ⟨#[97]⟩, 0, 300, 0, 0, 0⟩ ⟨by decide, by decide, by decide, by decide, by decide⟩ w
  rw [ask_here] at h1
  have H1 := Lib.hid h1
  have h2 := fun (wx : World) => wreadmsg_any (some ⟨wx.heap.size, 0, none⟩) 3 3 [2, 3, 5] (wx.alloc (.cells #[.int .u8 2, .int .u8 3, .int .u8 5] 5)) (rd_new wx [2, 3, 5] (by decide) (0, 0)) (Nat.le_refl _) (by omega)
  rw [msg_here] at h2
  have H2 := Lib.hid h2
  clear h1 h2
  go_enter Try.func14, Try.ntmps14
  go_wp2_with fail
  refine H1.out.mono ?_
  rintro e v1 ⟨A1, c1, rfl, ho1, hb1⟩
  have hs1 := hb1.size
  go_wp2_with fail
  refine (H2.out v1).mono ?_
  intro e v2 h2
  have h2 : e = .returned (.tuple #[.agg #[.int .i64 2, .int .i64 3, .int .i64 5, .string ⟨#[]⟩, .int .i64 0], .int .i64 0]) ∧ Below (v1.alloc (.cells #[.int .u8 2, .int .u8 3, .int .u8 5] 5)).heap.size (v1.alloc (.cells #[.int .u8 2, .int .u8 3, .int .u8 5] 5)) v2 := h2
  obtain ⟨rfl, hb2⟩ := h2
  have hb12 : Below v1.heap.size v1 v2 := ((Below.refl v1.heap.size v1).alloc (Nat.le_refl _) _).trans (hb2.mono (by simp))
  have hb3 : Below v1.heap.size v1 (v2.alloc (.cells #[.int .i64 2, .int .i64 3, .int .i64 5, .string ⟨#[]⟩, .int .i64 0] 43)) := hb12.alloc hb12.size _
  have hcv : (convert 25 9 (.slice A1 5 c1)).run Try.prog (v2.alloc (.cells #[.int .i64 2, .int .i64 3, .int .i64 5, .string ⟨#[]⟩, .int .i64 0] 43)) = .ok (.string ⟨#[2, 1, 97, 172, 2]⟩) (v2.alloc (.cells #[.int .i64 2, .int .i64 3, .int .i64 5, .string ⟨#[]⟩, .int .i64 0] 43)) := by
    have h := run_str (cap := c1) (ho1.rd.below hb3)
    rw [show str [2, 1, 97, 172, 2] = ⟨#[2, 1, 97, 172, 2]⟩ by decide +kernel] at h
    exact h
  have Hb := Lib.hid (hb1.trans (hb3.mono hs1))
  clear hb3 hb12 hb2 hb1 ho1
  go_wp2
  go_ret
  exact ⟨rfl, Hb.out⟩
end Go.Proofs.Ytonjjihbpeblkaa
