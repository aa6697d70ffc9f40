/- A Mem that New did not make. -/
import Derived.Test.YtfmbnoafmnbhcaaMmEnt
namespace Go.Proofs.Ytfmbnoafmnbhcaa
open Go.RowKit
/-- Nobody's: nil, or one whose mark is not set. -/
def NoM (w : World) (p : Option Addr) : Prop := p = none ∨ ∃ g cs, p = some ⟨g, 0, none⟩ ∧ Holds w g (.bool false :: cs)
theorem NoM.below {w w' : World} {p : Option Addr} (h : NoM w p) (hb : Below w.heap.size w w') : NoM w' p := h.imp id fun ⟨g, cs, h1, h2⟩ => ⟨g, cs, h1, h2.below hb⟩
set_option maxRecDepth 100000 in
theorem made_no (p : Option Addr) (w : World) (h : NoM w p) : Calls Try.prog 32 #[.pointer p] w fun e w' => e = .returned (.bool false) ∧ w' = w := by
  rcases h with rfl | ⟨g, cs, rfl, h⟩
  · go_enter Try.func32, Try.ntmps32
    go_wp2
    go_ret
    exact ⟨rfl, rfl⟩
  · have c0 := h.2.1 0 _ rfl
    clear h
    go_enter Try.func32, Try.ntmps32
    go_wp2
    go_ret
    exact ⟨rfl, rfl⟩
set_option maxRecDepth 100000 in
theorem len_no (p : Option Addr) (w : World) (h : NoM w p) : Calls Try.prog 20 #[.pointer p] w fun e w' => e = .returned (.int .i64 0) ∧ w' = w := by
  have H := Lib.hid h
  clear h
  go_enter Try.func20, Try.ntmps20
  go_wp2_with (go_at_call 32; refine (made_no p _ H.out).mono ?_; rintro e w1 ⟨rfl, rfl⟩)
  go_ret
  exact ⟨rfl, rfl⟩
set_option maxRecDepth 100000 in
theorem bytes_no (p : Option Addr) (w : World) (h : NoM w p) : Calls Try.prog 21 #[.pointer p] w fun e w' => e = .returned (.int .i64 0) ∧ w' = w := by
  have H := Lib.hid h
  clear h
  go_enter Try.func21, Try.ntmps21
  go_wp2_with (go_at_call 32; refine (made_no p _ H.out).mono ?_; rintro e w1 ⟨rfl, rfl⟩)
  go_ret
  exact ⟨rfl, rfl⟩
set_option maxRecDepth 100000 in
theorem fork_no (p : Option Addr) (w : World) (h : NoM w p) : Calls Try.prog 28 #[.pointer p] w fun e w' => e = .returned (.pointer none) ∧ w' = w := by
  have H := Lib.hid h
  clear h
  go_enter Try.func28, Try.ntmps28
  go_wp2_with (go_at_call 32; refine (made_no p _ H.out).mono ?_; rintro e w1 ⟨rfl, rfl⟩)
  go_ret
  exact ⟨rfl, rfl⟩
set_option maxRecDepth 100000 in
theorem put_no (p : Option Addr) (x : Bk.P) (w : World) (h : NoM w p) : Calls Try.prog 29 #[.pointer p, .agg (Bk.cells x).toArray] w fun e w' => e = .returned (.int .i64 4) ∧ Below w.heap.size w w' := by
  obtain ⟨⟨key, seq, del, val⟩, V, n, c⟩ := x
  have HB := Lib.hid (show Below w.heap.size w (w.alloc (.cells #[Value.string key, .int .i64 seq, .bool del, .slice V n c] 24)) from (Below.refl _ _).alloc (Nat.le_refl _) _)
  have H := Lib.hid (h.below HB.out)
  clear h
  show Calls _ _ #[.pointer p, .agg #[.string key, .int .i64 seq, .bool del, .slice V n c]] _ _
  go_enter Try.func29, Try.ntmps29
  go_wp2_with (go_at_call 32; refine (made_no p _ H.out).mono ?_; rintro e w1 ⟨rfl, rfl⟩)
  go_ret
  exact ⟨rfl, HB.out⟩
set_option maxRecDepth 100000 in
set_option maxHeartbeats 4000000 in
theorem range_no (p : Option Addr) (low high : ByteArray) (w : World) (h : NoM w p) : Calls Try.prog 26 #[.pointer p, .string low, .string high] w fun e w' => e = .returned (.slice none 0 0) ∧ Below w.heap.size w w' := by
  have HB := Lib.hid (show Below w.heap.size w (w.alloc (.cells #[Value.string high] 9)) from (Below.refl _ _).alloc (Nat.le_refl _) _)
  have H := Lib.hid (h.below HB.out)
  clear h
  go_enter Try.func26, Try.ntmps26
  go_wp2_with (go_at_call 32; refine (made_no p _ H.out).mono ?_; rintro e w1 ⟨rfl, rfl⟩)
  go_ret
  exact ⟨rfl, HB.out⟩
set_option maxRecDepth 100000 in
theorem all_no (p : Option Addr) (w : World) (h : NoM w p) : Calls Try.prog 19 #[.pointer p] w fun e w' => e = .returned (.slice none 0 0) ∧ Below w.heap.size w w' := by
  have H := Lib.hid (range_no p ⟨#[]⟩ ⟨#[]⟩ w h)
  clear h
  go_enter Try.func19, Try.ntmps19
  go_wp2_with (go_at_call 26; refine H.out.mono ?_; rintro e w1 ⟨rfl, hb⟩)
  go_ret
  exact ⟨rfl, hb⟩
set_option maxRecDepth 100000 in
set_option maxHeartbeats 4000000 in
theorem get_no (p : Option Addr) (key : ByteArray) (seq : Int) (w : World) (h : NoM w p) : Calls Try.prog 23 #[.pointer p, .string key, .int .i64 seq] w fun e w' => e = .returned (.tuple #[.agg #[.string ⟨#[]⟩, .int .i64 0, .bool false, .slice none 0 0], .bool false]) ∧ Below w.heap.size w w' := by
  have HB := Lib.hid (show Below w.heap.size w (((w.alloc (.cells #[Value.string key] 9)).alloc (.cells #[Value.string ⟨#[]⟩, .int .i64 0, .bool false, .slice none 0 0] 24)).alloc (.cells #[Value.bool false] 4)) from (((Below.refl _ _).alloc (Nat.le_refl _) _).alloc (by simp) _).alloc (by simp; omega) _)
  have HZ := Lib.hid (get_boxes w key)
  have H := Lib.hid (h.below HB.out)
  clear h
  go_enter Try.func23, Try.ntmps23
  go_wp2_with fail
  refine (made_no p _ H.out).mono ?_
  rintro e w1 ⟨rfl, rfl⟩
  generalize (((w.alloc (.cells #[Value.string key] 9)).alloc (.cells #[Value.string ⟨#[]⟩, .int .i64 0, .bool false, .slice none 0 0] 24)).alloc (.cells #[Value.bool false] 4)) = v at HB HZ ⊢
  have q0 := HZ.out.2.1.2.1 0 _ rfl
  have q1 := HZ.out.2.1.2.1 1 _ rfl
  have q2 := HZ.out.2.1.2.1 2 _ rfl
  have q3 := HZ.out.2.1.2.1 3 _ rfl
  have q4 := HZ.out.2.2.2.1 0 _ rfl
  have qf := HZ.out.2.1.2.2
  have qg := HZ.out.2.2.2.2
  go_wp2_with fail
  obtain ⟨v', hv', k1, k2, k3, k4⟩ := get_zeroed (w := w) (x0 := .string ⟨#[]⟩) (x1 := .int .i64 0) (x2 := .bool false) (x3 := .slice none 0 0) HB.out HZ.out.2.1 HZ.out.2.2
  rw [← hv']
  clear hv' q0 q1 q2 q3 q4 qf qg
  have m0 := k2.2.1 0 _ rfl
  have m1 := k2.2.1 1 _ rfl
  have m2 := k2.2.1 2 _ rfl
  have m3 := k2.2.1 3 _ rfl
  have m4 := k3.2.1 0 _ rfl
  exact bodyPost_ret (v := .tuple #[.agg #[.string ⟨#[]⟩, .int .i64 0, .bool false, .slice none 0 0], .bool false]) (by simp [results, Try.results23, go_sem, m0, m1, m2, m3, m4]) rfl ⟨rfl, k4⟩
end Go.Proofs.Ytfmbnoafmnbhcaa
