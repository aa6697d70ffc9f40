/- The document's fields of a request. -/
import Derived.Test.YtonjjihbpeblkaaRfReply
namespace Go.Proofs.Ytonjjihbpeblkaa
open Go.RowKit
set_option maxRecDepth 100000 in
set_option maxHeartbeats 8000000 in
theorem fields_1 (s : ByteArray) (d n u p q : Int) (w : World) : Calls Try.prog 29 #[.agg #[.int .i64 1, .string s, .int .i64 d, .int .i64 n, .int .i64 u, .int .i64 p, .int .i64 q]] w fun e w' => ∃ (A : Option Addr) (c : Nat), e = .returned (.tuple #[.slice A 2 c, .bool true]) ∧ RdF w' A 2 [.string s, .int .i64 n] ∧ 2 ≤ c ∧ Below w.heap.size w w' := by
  have hHB : Holds (w.alloc (.cells #[Value.int .i64 1, .string s, .int .i64 d, .int .i64 n, .int .i64 u, .int .i64 p, .int .i64 q] 24)) w.heap.size [.int .i64 1, .string s, .int .i64 d, .int .i64 n, .int .i64 u, .int .i64 p, .int .i64 q] := by simpa using Holds.new w #[Value.int .i64 1, .string s, .int .i64 d, .int .i64 n, .int .i64 u, .int .i64 p, .int .i64 q] 24
  have hbb : Below w.heap.size w (w.alloc (.cells #[Value.int .i64 1, .string s, .int .i64 d, .int .i64 n, .int .i64 u, .int .i64 p, .int .i64 q] 24)) := (Below.refl _ _).alloc (Nat.le_refl _) _
  have HB := Lib.hid hbb
  have HH := Lib.hid hHB
  clear hbb hHB
  go_enter Try.func29, Try.ntmps29
  go_wp2_with fail
  generalize w.alloc (.cells #[Value.int .i64 1, .string s, .int .i64 d, .int .i64 n, .int .i64 u, .int .i64 p, .int .i64 q] 24) = w1 at *
  have hsz : w.heap.size ≤ w1.heap.size := HB.out.size
  have hc : ∀ wx, Below w1.heap.size w1 wx → wx.cell? ⟨w.heap.size, 1, none⟩ = some (.string s) ∧ wx.cell? ⟨w.heap.size, 3, none⟩ = some (.int .i64 n) := fun wx hx => by
    have k0 := HH.out.below hx
    exact ⟨k0.at_ 1 rfl, k0.at_ 3 rfl⟩
  have HC := Lib.hid hc
  clear hc
  have hd0 : Below w1.heap.size w1 w1.drew := (Below.refl _ _).drew
  have hc0 := HC.out _ hd0
  go_region_held3 (fun wx => wx.cell? ⟨w.heap.size, 1, none⟩ = some (.string s) ∧ wx.cell? ⟨w.heap.size, 3, none⟩ = some (.int .i64 n)) (first | exact hc0 | exact HC.out _ hq4 | exact HC.out _ (hq4.alloc hq4.size _)) (first | (go_at_call 38; refine (fnum_any _ _).mono ?_; rintro e v4 ⟨rfl, hb4⟩; have hq4 : Below w1.heap.size w1 v4 := below_next (by assumption) hb4) | (go_at_call 43; refine (ftext_any _ _).mono ?_; rintro e v4 ⟨rfl, hb4⟩; have hq4 : Below w1.heap.size w1 v4 := below_next (by assumption) hb4))
  · have hf4 : RdF (v4.alloc (.cells #[Value.bool true, .int .i64 0, .string s, .bool false, .int .i64 n, .string ⟨#[]⟩] 76)) (some ⟨v4.heap.size, 0, none⟩) 2 [.string s, .int .i64 n] := rdf_new v4 76 [.string s, .int .i64 n] 2 rfl
    have hb4 : Below w.heap.size w (v4.alloc (.cells #[Value.bool true, .int .i64 0, .string s, .bool false, .int .i64 n, .string ⟨#[]⟩] 76)) := HB.out.trans ((hq4.alloc hq4.size _).mono hsz)
    have HF := Lib.hid hf4
    have HBf := Lib.hid hb4
    clear hf4 hb4
    go_wp2
    go_ret2
    exact ⟨_, _, rfl, HF.out, Nat.le_refl _, HBf.out⟩
set_option maxRecDepth 100000 in
set_option maxHeartbeats 8000000 in
theorem fields_2 (s : ByteArray) (d n u p q : Int) (w : World) : Calls Try.prog 29 #[.agg #[.int .i64 2, .string s, .int .i64 d, .int .i64 n, .int .i64 u, .int .i64 p, .int .i64 q]] w fun e w' => ∃ (A : Option Addr) (c : Nat), e = .returned (.tuple #[.slice A 2 c, .bool true]) ∧ RdF w' A 2 [.string s, .int .i64 n] ∧ 2 ≤ c ∧ Below w.heap.size w w' := by
  have hHB : Holds (w.alloc (.cells #[Value.int .i64 2, .string s, .int .i64 d, .int .i64 n, .int .i64 u, .int .i64 p, .int .i64 q] 24)) w.heap.size [.int .i64 2, .string s, .int .i64 d, .int .i64 n, .int .i64 u, .int .i64 p, .int .i64 q] := by simpa using Holds.new w #[Value.int .i64 2, .string s, .int .i64 d, .int .i64 n, .int .i64 u, .int .i64 p, .int .i64 q] 24
  have hbb : Below w.heap.size w (w.alloc (.cells #[Value.int .i64 2, .string s, .int .i64 d, .int .i64 n, .int .i64 u, .int .i64 p, .int .i64 q] 24)) := (Below.refl _ _).alloc (Nat.le_refl _) _
  have HB := Lib.hid hbb
  have HH := Lib.hid hHB
  clear hbb hHB
  go_enter Try.func29, Try.ntmps29
  go_wp2_with fail
  generalize w.alloc (.cells #[Value.int .i64 2, .string s, .int .i64 d, .int .i64 n, .int .i64 u, .int .i64 p, .int .i64 q] 24) = w1 at *
  have hsz : w.heap.size ≤ w1.heap.size := HB.out.size
  have hc : ∀ wx, Below w1.heap.size w1 wx → wx.cell? ⟨w.heap.size, 1, none⟩ = some (.string s) ∧ wx.cell? ⟨w.heap.size, 3, none⟩ = some (.int .i64 n) := fun wx hx => by
    have k0 := HH.out.below hx
    exact ⟨k0.at_ 1 rfl, k0.at_ 3 rfl⟩
  have HC := Lib.hid hc
  clear hc
  have hd0 : Below w1.heap.size w1 w1.drew := (Below.refl _ _).drew
  have hc0 := HC.out _ hd0
  go_region_held3 (fun wx => wx.cell? ⟨w.heap.size, 1, none⟩ = some (.string s) ∧ wx.cell? ⟨w.heap.size, 3, none⟩ = some (.int .i64 n)) (first | exact hc0 | exact HC.out _ hq4 | exact HC.out _ (hq4.alloc hq4.size _)) (first | (go_at_call 38; refine (fnum_any _ _).mono ?_; rintro e v4 ⟨rfl, hb4⟩; have hq4 : Below w1.heap.size w1 v4 := below_next (by assumption) hb4) | (go_at_call 43; refine (ftext_any _ _).mono ?_; rintro e v4 ⟨rfl, hb4⟩; have hq4 : Below w1.heap.size w1 v4 := below_next (by assumption) hb4))
  · have hf4 : RdF (v4.alloc (.cells #[Value.bool true, .int .i64 0, .string s, .bool false, .int .i64 n, .string ⟨#[]⟩] 76)) (some ⟨v4.heap.size, 0, none⟩) 2 [.string s, .int .i64 n] := rdf_new v4 76 [.string s, .int .i64 n] 2 rfl
    have hb4 : Below w.heap.size w (v4.alloc (.cells #[Value.bool true, .int .i64 0, .string s, .bool false, .int .i64 n, .string ⟨#[]⟩] 76)) := HB.out.trans ((hq4.alloc hq4.size _).mono hsz)
    have HF := Lib.hid hf4
    have HBf := Lib.hid hb4
    clear hf4 hb4
    go_wp2
    go_ret2
    exact ⟨_, _, rfl, HF.out, Nat.le_refl _, HBf.out⟩
set_option maxRecDepth 100000 in
set_option maxHeartbeats 8000000 in
theorem fields_3 (s : ByteArray) (d n u p q : Int) (w : World) : Calls Try.prog 29 #[.agg #[.int .i64 3, .string s, .int .i64 d, .int .i64 n, .int .i64 u, .int .i64 p, .int .i64 q]] w fun e w' => ∃ (A : Option Addr) (c : Nat), e = .returned (.tuple #[.slice A 4 c, .bool true]) ∧ RdF w' A 4 [.string s, .int .i64 d, .int .i64 n, .int .i64 u] ∧ 4 ≤ c ∧ Below w.heap.size w w' := by
  have hHB : Holds (w.alloc (.cells #[Value.int .i64 3, .string s, .int .i64 d, .int .i64 n, .int .i64 u, .int .i64 p, .int .i64 q] 24)) w.heap.size [.int .i64 3, .string s, .int .i64 d, .int .i64 n, .int .i64 u, .int .i64 p, .int .i64 q] := by simpa using Holds.new w #[Value.int .i64 3, .string s, .int .i64 d, .int .i64 n, .int .i64 u, .int .i64 p, .int .i64 q] 24
  have hbb : Below w.heap.size w (w.alloc (.cells #[Value.int .i64 3, .string s, .int .i64 d, .int .i64 n, .int .i64 u, .int .i64 p, .int .i64 q] 24)) := (Below.refl _ _).alloc (Nat.le_refl _) _
  have HB := Lib.hid hbb
  have HH := Lib.hid hHB
  clear hbb hHB
  go_enter Try.func29, Try.ntmps29
  go_wp2_with fail
  generalize w.alloc (.cells #[Value.int .i64 3, .string s, .int .i64 d, .int .i64 n, .int .i64 u, .int .i64 p, .int .i64 q] 24) = w1 at *
  have hsz : w.heap.size ≤ w1.heap.size := HB.out.size
  have hc : ∀ wx, Below w1.heap.size w1 wx → wx.cell? ⟨w.heap.size, 1, none⟩ = some (.string s) ∧ wx.cell? ⟨w.heap.size, 2, none⟩ = some (.int .i64 d) ∧ wx.cell? ⟨w.heap.size, 3, none⟩ = some (.int .i64 n) ∧ wx.cell? ⟨w.heap.size, 4, none⟩ = some (.int .i64 u) := fun wx hx => by
    have k0 := HH.out.below hx
    exact ⟨k0.at_ 1 rfl, k0.at_ 2 rfl, k0.at_ 3 rfl, k0.at_ 4 rfl⟩
  have HC := Lib.hid hc
  clear hc
  have hd0 : Below w1.heap.size w1 w1.drew := (Below.refl _ _).drew
  have hc0 := HC.out _ hd0
  go_region_held3 (fun wx => wx.cell? ⟨w.heap.size, 1, none⟩ = some (.string s) ∧ wx.cell? ⟨w.heap.size, 2, none⟩ = some (.int .i64 d) ∧ wx.cell? ⟨w.heap.size, 3, none⟩ = some (.int .i64 n) ∧ wx.cell? ⟨w.heap.size, 4, none⟩ = some (.int .i64 u)) (first | exact hc0 | exact HC.out _ hq4 | exact HC.out _ (hq4.alloc hq4.size _)) (first | (go_at_call 38; refine (fnum_any _ _).mono ?_; rintro e v4 ⟨rfl, hb4⟩; have hq4 : Below w1.heap.size w1 v4 := below_next (by assumption) hb4) | (go_at_call 43; refine (ftext_any _ _).mono ?_; rintro e v4 ⟨rfl, hb4⟩; have hq4 : Below w1.heap.size w1 v4 := below_next (by assumption) hb4))
  · have hf4 : RdF (v4.alloc (.cells #[Value.bool true, .int .i64 0, .string s, .bool false, .int .i64 d, .string ⟨#[]⟩, .bool false, .int .i64 n, .string ⟨#[]⟩, .bool false, .int .i64 u, .string ⟨#[]⟩] 76)) (some ⟨v4.heap.size, 0, none⟩) 4 [.string s, .int .i64 d, .int .i64 n, .int .i64 u] := rdf_new v4 76 [.string s, .int .i64 d, .int .i64 n, .int .i64 u] 4 rfl
    have hb4 : Below w.heap.size w (v4.alloc (.cells #[Value.bool true, .int .i64 0, .string s, .bool false, .int .i64 d, .string ⟨#[]⟩, .bool false, .int .i64 n, .string ⟨#[]⟩, .bool false, .int .i64 u, .string ⟨#[]⟩] 76)) := HB.out.trans ((hq4.alloc hq4.size _).mono hsz)
    have HF := Lib.hid hf4
    have HBf := Lib.hid hb4
    clear hf4 hb4
    go_wp2
    go_ret2
    exact ⟨_, _, rfl, HF.out, Nat.le_refl _, HBf.out⟩
set_option maxRecDepth 100000 in
set_option maxHeartbeats 8000000 in
theorem fields_4 (s : ByteArray) (d n u p q : Int) (w : World) : Calls Try.prog 29 #[.agg #[.int .i64 4, .string s, .int .i64 d, .int .i64 n, .int .i64 u, .int .i64 p, .int .i64 q]] w fun e w' => ∃ (A : Option Addr) (c : Nat), e = .returned (.tuple #[.slice A 2 c, .bool true]) ∧ RdF w' A 2 [.string s, .int .i64 d] ∧ 2 ≤ c ∧ Below w.heap.size w w' := by
  have hHB : Holds (w.alloc (.cells #[Value.int .i64 4, .string s, .int .i64 d, .int .i64 n, .int .i64 u, .int .i64 p, .int .i64 q] 24)) w.heap.size [.int .i64 4, .string s, .int .i64 d, .int .i64 n, .int .i64 u, .int .i64 p, .int .i64 q] := by simpa using Holds.new w #[Value.int .i64 4, .string s, .int .i64 d, .int .i64 n, .int .i64 u, .int .i64 p, .int .i64 q] 24
  have hbb : Below w.heap.size w (w.alloc (.cells #[Value.int .i64 4, .string s, .int .i64 d, .int .i64 n, .int .i64 u, .int .i64 p, .int .i64 q] 24)) := (Below.refl _ _).alloc (Nat.le_refl _) _
  have HB := Lib.hid hbb
  have HH := Lib.hid hHB
  clear hbb hHB
  go_enter Try.func29, Try.ntmps29
  go_wp2_with fail
  generalize w.alloc (.cells #[Value.int .i64 4, .string s, .int .i64 d, .int .i64 n, .int .i64 u, .int .i64 p, .int .i64 q] 24) = w1 at *
  have hsz : w.heap.size ≤ w1.heap.size := HB.out.size
  have hc : ∀ wx, Below w1.heap.size w1 wx → wx.cell? ⟨w.heap.size, 1, none⟩ = some (.string s) ∧ wx.cell? ⟨w.heap.size, 2, none⟩ = some (.int .i64 d) := fun wx hx => by
    have k0 := HH.out.below hx
    exact ⟨k0.at_ 1 rfl, k0.at_ 2 rfl⟩
  have HC := Lib.hid hc
  clear hc
  have hd0 : Below w1.heap.size w1 w1.drew := (Below.refl _ _).drew
  have hc0 := HC.out _ hd0
  go_region_held3 (fun wx => wx.cell? ⟨w.heap.size, 1, none⟩ = some (.string s) ∧ wx.cell? ⟨w.heap.size, 2, none⟩ = some (.int .i64 d)) (first | exact hc0 | exact HC.out _ hq4 | exact HC.out _ (hq4.alloc hq4.size _)) (first | (go_at_call 38; refine (fnum_any _ _).mono ?_; rintro e v4 ⟨rfl, hb4⟩; have hq4 : Below w1.heap.size w1 v4 := below_next (by assumption) hb4) | (go_at_call 43; refine (ftext_any _ _).mono ?_; rintro e v4 ⟨rfl, hb4⟩; have hq4 : Below w1.heap.size w1 v4 := below_next (by assumption) hb4))
  · have hf4 : RdF (v4.alloc (.cells #[Value.bool true, .int .i64 0, .string s, .bool false, .int .i64 d, .string ⟨#[]⟩] 76)) (some ⟨v4.heap.size, 0, none⟩) 2 [.string s, .int .i64 d] := rdf_new v4 76 [.string s, .int .i64 d] 2 rfl
    have hb4 : Below w.heap.size w (v4.alloc (.cells #[Value.bool true, .int .i64 0, .string s, .bool false, .int .i64 d, .string ⟨#[]⟩] 76)) := HB.out.trans ((hq4.alloc hq4.size _).mono hsz)
    have HF := Lib.hid hf4
    have HBf := Lib.hid hb4
    clear hf4 hb4
    go_wp2
    go_ret2
    exact ⟨_, _, rfl, HF.out, Nat.le_refl _, HBf.out⟩
set_option maxRecDepth 100000 in
set_option maxHeartbeats 8000000 in
theorem fields_5 (s : ByteArray) (d n u p q : Int) (w : World) : Calls Try.prog 29 #[.agg #[.int .i64 5, .string s, .int .i64 d, .int .i64 n, .int .i64 u, .int .i64 p, .int .i64 q]] w fun e w' => ∃ (A : Option Addr) (c : Nat), e = .returned (.tuple #[.slice A 2 c, .bool true]) ∧ RdF w' A 2 [.string s, .int .i64 d] ∧ 2 ≤ c ∧ Below w.heap.size w w' := by
  have hHB : Holds (w.alloc (.cells #[Value.int .i64 5, .string s, .int .i64 d, .int .i64 n, .int .i64 u, .int .i64 p, .int .i64 q] 24)) w.heap.size [.int .i64 5, .string s, .int .i64 d, .int .i64 n, .int .i64 u, .int .i64 p, .int .i64 q] := by simpa using Holds.new w #[Value.int .i64 5, .string s, .int .i64 d, .int .i64 n, .int .i64 u, .int .i64 p, .int .i64 q] 24
  have hbb : Below w.heap.size w (w.alloc (.cells #[Value.int .i64 5, .string s, .int .i64 d, .int .i64 n, .int .i64 u, .int .i64 p, .int .i64 q] 24)) := (Below.refl _ _).alloc (Nat.le_refl _) _
  have HB := Lib.hid hbb
  have HH := Lib.hid hHB
  clear hbb hHB
  go_enter Try.func29, Try.ntmps29
  go_wp2_with fail
  generalize w.alloc (.cells #[Value.int .i64 5, .string s, .int .i64 d, .int .i64 n, .int .i64 u, .int .i64 p, .int .i64 q] 24) = w1 at *
  have hsz : w.heap.size ≤ w1.heap.size := HB.out.size
  have hc : ∀ wx, Below w1.heap.size w1 wx → wx.cell? ⟨w.heap.size, 1, none⟩ = some (.string s) ∧ wx.cell? ⟨w.heap.size, 2, none⟩ = some (.int .i64 d) := fun wx hx => by
    have k0 := HH.out.below hx
    exact ⟨k0.at_ 1 rfl, k0.at_ 2 rfl⟩
  have HC := Lib.hid hc
  clear hc
  have hd0 : Below w1.heap.size w1 w1.drew := (Below.refl _ _).drew
  have hc0 := HC.out _ hd0
  go_region_held3 (fun wx => wx.cell? ⟨w.heap.size, 1, none⟩ = some (.string s) ∧ wx.cell? ⟨w.heap.size, 2, none⟩ = some (.int .i64 d)) (first | exact hc0 | exact HC.out _ hq4 | exact HC.out _ (hq4.alloc hq4.size _)) (first | (go_at_call 38; refine (fnum_any _ _).mono ?_; rintro e v4 ⟨rfl, hb4⟩; have hq4 : Below w1.heap.size w1 v4 := below_next (by assumption) hb4) | (go_at_call 43; refine (ftext_any _ _).mono ?_; rintro e v4 ⟨rfl, hb4⟩; have hq4 : Below w1.heap.size w1 v4 := below_next (by assumption) hb4))
  · have hf4 : RdF (v4.alloc (.cells #[Value.bool true, .int .i64 0, .string s, .bool false, .int .i64 d, .string ⟨#[]⟩] 76)) (some ⟨v4.heap.size, 0, none⟩) 2 [.string s, .int .i64 d] := rdf_new v4 76 [.string s, .int .i64 d] 2 rfl
    have hb4 : Below w.heap.size w (v4.alloc (.cells #[Value.bool true, .int .i64 0, .string s, .bool false, .int .i64 d, .string ⟨#[]⟩] 76)) := HB.out.trans ((hq4.alloc hq4.size _).mono hsz)
    have HF := Lib.hid hf4
    have HBf := Lib.hid hb4
    clear hf4 hb4
    go_wp2
    go_ret2
    exact ⟨_, _, rfl, HF.out, Nat.le_refl _, HBf.out⟩
set_option maxRecDepth 100000 in
set_option maxHeartbeats 8000000 in
theorem fields_6 (s : ByteArray) (d n u p q : Int) (w : World) : Calls Try.prog 29 #[.agg #[.int .i64 6, .string s, .int .i64 d, .int .i64 n, .int .i64 u, .int .i64 p, .int .i64 q]] w fun e w' => ∃ (A : Option Addr) (c : Nat), e = .returned (.tuple #[.slice A 1 c, .bool true]) ∧ RdF w' A 1 [.string s] ∧ 1 ≤ c ∧ Below w.heap.size w w' := by
  have hHB : Holds (w.alloc (.cells #[Value.int .i64 6, .string s, .int .i64 d, .int .i64 n, .int .i64 u, .int .i64 p, .int .i64 q] 24)) w.heap.size [.int .i64 6, .string s, .int .i64 d, .int .i64 n, .int .i64 u, .int .i64 p, .int .i64 q] := by simpa using Holds.new w #[Value.int .i64 6, .string s, .int .i64 d, .int .i64 n, .int .i64 u, .int .i64 p, .int .i64 q] 24
  have hbb : Below w.heap.size w (w.alloc (.cells #[Value.int .i64 6, .string s, .int .i64 d, .int .i64 n, .int .i64 u, .int .i64 p, .int .i64 q] 24)) := (Below.refl _ _).alloc (Nat.le_refl _) _
  have HB := Lib.hid hbb
  have HH := Lib.hid hHB
  clear hbb hHB
  go_enter Try.func29, Try.ntmps29
  go_wp2_with fail
  generalize w.alloc (.cells #[Value.int .i64 6, .string s, .int .i64 d, .int .i64 n, .int .i64 u, .int .i64 p, .int .i64 q] 24) = w1 at *
  have hsz : w.heap.size ≤ w1.heap.size := HB.out.size
  refine (ftext_any _ _).mono ?_
  rintro e v4 ⟨rfl, hb4⟩
  have hq4 : Below w1.heap.size w1 v4 := hb4
  · have hf4 : RdF (v4.alloc (.cells #[Value.bool true, .int .i64 0, .string s] 76)) (some ⟨v4.heap.size, 0, none⟩) 1 [.string s] := rdf_new v4 76 [.string s] 1 rfl
    have hb4 : Below w.heap.size w (v4.alloc (.cells #[Value.bool true, .int .i64 0, .string s] 76)) := HB.out.trans ((hq4.alloc hq4.size _).mono hsz)
    have HF := Lib.hid hf4
    have HBf := Lib.hid hb4
    clear hf4 hb4
    go_wp2
    go_ret2
    exact ⟨_, _, rfl, HF.out, Nat.le_refl _, HBf.out⟩
set_option maxRecDepth 100000 in
set_option maxHeartbeats 8000000 in
theorem fields_7 (s : ByteArray) (d n u p q : Int) (w : World) : Calls Try.prog 29 #[.agg #[.int .i64 7, .string s, .int .i64 d, .int .i64 n, .int .i64 u, .int .i64 p, .int .i64 q]] w fun e w' => ∃ (A : Option Addr) (c : Nat), e = .returned (.tuple #[.slice A 1 c, .bool true]) ∧ RdF w' A 1 [.int .i64 n] ∧ 1 ≤ c ∧ Below w.heap.size w w' := by
  have hHB : Holds (w.alloc (.cells #[Value.int .i64 7, .string s, .int .i64 d, .int .i64 n, .int .i64 u, .int .i64 p, .int .i64 q] 24)) w.heap.size [.int .i64 7, .string s, .int .i64 d, .int .i64 n, .int .i64 u, .int .i64 p, .int .i64 q] := by simpa using Holds.new w #[Value.int .i64 7, .string s, .int .i64 d, .int .i64 n, .int .i64 u, .int .i64 p, .int .i64 q] 24
  have hbb : Below w.heap.size w (w.alloc (.cells #[Value.int .i64 7, .string s, .int .i64 d, .int .i64 n, .int .i64 u, .int .i64 p, .int .i64 q] 24)) := (Below.refl _ _).alloc (Nat.le_refl _) _
  have HB := Lib.hid hbb
  have HH := Lib.hid hHB
  clear hbb hHB
  go_enter Try.func29, Try.ntmps29
  go_wp2_with fail
  generalize w.alloc (.cells #[Value.int .i64 7, .string s, .int .i64 d, .int .i64 n, .int .i64 u, .int .i64 p, .int .i64 q] 24) = w1 at *
  have hsz : w.heap.size ≤ w1.heap.size := HB.out.size
  refine (fnum_any _ _).mono ?_
  rintro e v4 ⟨rfl, hb4⟩
  have hq4 : Below w1.heap.size w1 v4 := hb4
  · have hf4 : RdF (v4.alloc (.cells #[Value.bool false, .int .i64 n, .string ⟨#[]⟩] 76)) (some ⟨v4.heap.size, 0, none⟩) 1 [.int .i64 n] := rdf_new v4 76 [.int .i64 n] 1 rfl
    have hb4 : Below w.heap.size w (v4.alloc (.cells #[Value.bool false, .int .i64 n, .string ⟨#[]⟩] 76)) := HB.out.trans ((hq4.alloc hq4.size _).mono hsz)
    have HF := Lib.hid hf4
    have HBf := Lib.hid hb4
    clear hf4 hb4
    go_wp2
    go_ret2
    exact ⟨_, _, rfl, HF.out, Nat.le_refl _, HBf.out⟩
set_option maxRecDepth 100000 in
set_option maxHeartbeats 8000000 in
theorem fields_8 (s : ByteArray) (d n u p q : Int) (w : World) : Calls Try.prog 29 #[.agg #[.int .i64 8, .string s, .int .i64 d, .int .i64 n, .int .i64 u, .int .i64 p, .int .i64 q]] w fun e w' => ∃ (A : Option Addr) (c : Nat), e = .returned (.tuple #[.slice A 2 c, .bool true]) ∧ RdF w' A 2 [.string s, .int .i64 n] ∧ 2 ≤ c ∧ Below w.heap.size w w' := by
  have hHB : Holds (w.alloc (.cells #[Value.int .i64 8, .string s, .int .i64 d, .int .i64 n, .int .i64 u, .int .i64 p, .int .i64 q] 24)) w.heap.size [.int .i64 8, .string s, .int .i64 d, .int .i64 n, .int .i64 u, .int .i64 p, .int .i64 q] := by simpa using Holds.new w #[Value.int .i64 8, .string s, .int .i64 d, .int .i64 n, .int .i64 u, .int .i64 p, .int .i64 q] 24
  have hbb : Below w.heap.size w (w.alloc (.cells #[Value.int .i64 8, .string s, .int .i64 d, .int .i64 n, .int .i64 u, .int .i64 p, .int .i64 q] 24)) := (Below.refl _ _).alloc (Nat.le_refl _) _
  have HB := Lib.hid hbb
  have HH := Lib.hid hHB
  clear hbb hHB
  go_enter Try.func29, Try.ntmps29
  go_wp2_with fail
  generalize w.alloc (.cells #[Value.int .i64 8, .string s, .int .i64 d, .int .i64 n, .int .i64 u, .int .i64 p, .int .i64 q] 24) = w1 at *
  have hsz : w.heap.size ≤ w1.heap.size := HB.out.size
  have hc : ∀ wx, Below w1.heap.size w1 wx → wx.cell? ⟨w.heap.size, 1, none⟩ = some (.string s) ∧ wx.cell? ⟨w.heap.size, 3, none⟩ = some (.int .i64 n) := fun wx hx => by
    have k0 := HH.out.below hx
    exact ⟨k0.at_ 1 rfl, k0.at_ 3 rfl⟩
  have HC := Lib.hid hc
  clear hc
  have hd0 : Below w1.heap.size w1 w1.drew := (Below.refl _ _).drew
  have hc0 := HC.out _ hd0
  go_region_held3 (fun wx => wx.cell? ⟨w.heap.size, 1, none⟩ = some (.string s) ∧ wx.cell? ⟨w.heap.size, 3, none⟩ = some (.int .i64 n)) (first | exact hc0 | exact HC.out _ hq4 | exact HC.out _ (hq4.alloc hq4.size _)) (first | (go_at_call 38; refine (fnum_any _ _).mono ?_; rintro e v4 ⟨rfl, hb4⟩; have hq4 : Below w1.heap.size w1 v4 := below_next (by assumption) hb4) | (go_at_call 43; refine (ftext_any _ _).mono ?_; rintro e v4 ⟨rfl, hb4⟩; have hq4 : Below w1.heap.size w1 v4 := below_next (by assumption) hb4))
  · have hf4 : RdF (v4.alloc (.cells #[Value.bool true, .int .i64 0, .string s, .bool false, .int .i64 n, .string ⟨#[]⟩] 76)) (some ⟨v4.heap.size, 0, none⟩) 2 [.string s, .int .i64 n] := rdf_new v4 76 [.string s, .int .i64 n] 2 rfl
    have hb4 : Below w.heap.size w (v4.alloc (.cells #[Value.bool true, .int .i64 0, .string s, .bool false, .int .i64 n, .string ⟨#[]⟩] 76)) := HB.out.trans ((hq4.alloc hq4.size _).mono hsz)
    have HF := Lib.hid hf4
    have HBf := Lib.hid hb4
    clear hf4 hb4
    go_wp2
    go_ret2
    exact ⟨_, _, rfl, HF.out, Nat.le_refl _, HBf.out⟩
set_option maxRecDepth 100000 in
set_option maxHeartbeats 8000000 in
theorem fields_9 (s : ByteArray) (d n u p q : Int) (w : World) : Calls Try.prog 29 #[.agg #[.int .i64 9, .string s, .int .i64 d, .int .i64 n, .int .i64 u, .int .i64 p, .int .i64 q]] w fun e w' => ∃ (A : Option Addr) (c : Nat), e = .returned (.tuple #[.slice A 3 c, .bool true]) ∧ RdF w' A 3 [.string s, .int .i64 p, .int .i64 n] ∧ 3 ≤ c ∧ Below w.heap.size w w' := by
  have hHB : Holds (w.alloc (.cells #[Value.int .i64 9, .string s, .int .i64 d, .int .i64 n, .int .i64 u, .int .i64 p, .int .i64 q] 24)) w.heap.size [.int .i64 9, .string s, .int .i64 d, .int .i64 n, .int .i64 u, .int .i64 p, .int .i64 q] := by simpa using Holds.new w #[Value.int .i64 9, .string s, .int .i64 d, .int .i64 n, .int .i64 u, .int .i64 p, .int .i64 q] 24
  have hbb : Below w.heap.size w (w.alloc (.cells #[Value.int .i64 9, .string s, .int .i64 d, .int .i64 n, .int .i64 u, .int .i64 p, .int .i64 q] 24)) := (Below.refl _ _).alloc (Nat.le_refl _) _
  have HB := Lib.hid hbb
  have HH := Lib.hid hHB
  clear hbb hHB
  go_enter Try.func29, Try.ntmps29
  go_wp2_with fail
  generalize w.alloc (.cells #[Value.int .i64 9, .string s, .int .i64 d, .int .i64 n, .int .i64 u, .int .i64 p, .int .i64 q] 24) = w1 at *
  have hsz : w.heap.size ≤ w1.heap.size := HB.out.size
  have hc : ∀ wx, Below w1.heap.size w1 wx → wx.cell? ⟨w.heap.size, 1, none⟩ = some (.string s) ∧ wx.cell? ⟨w.heap.size, 5, none⟩ = some (.int .i64 p) ∧ wx.cell? ⟨w.heap.size, 3, none⟩ = some (.int .i64 n) := fun wx hx => by
    have k0 := HH.out.below hx
    exact ⟨k0.at_ 1 rfl, k0.at_ 5 rfl, k0.at_ 3 rfl⟩
  have HC := Lib.hid hc
  clear hc
  have hd0 : Below w1.heap.size w1 w1.drew := (Below.refl _ _).drew
  have hc0 := HC.out _ hd0
  go_region_held3 (fun wx => wx.cell? ⟨w.heap.size, 1, none⟩ = some (.string s) ∧ wx.cell? ⟨w.heap.size, 5, none⟩ = some (.int .i64 p) ∧ wx.cell? ⟨w.heap.size, 3, none⟩ = some (.int .i64 n)) (first | exact hc0 | exact HC.out _ hq4 | exact HC.out _ (hq4.alloc hq4.size _)) (first | (go_at_call 38; refine (fnum_any _ _).mono ?_; rintro e v4 ⟨rfl, hb4⟩; have hq4 : Below w1.heap.size w1 v4 := below_next (by assumption) hb4) | (go_at_call 43; refine (ftext_any _ _).mono ?_; rintro e v4 ⟨rfl, hb4⟩; have hq4 : Below w1.heap.size w1 v4 := below_next (by assumption) hb4))
  · have hf4 : RdF (v4.alloc (.cells #[Value.bool true, .int .i64 0, .string s, .bool false, .int .i64 p, .string ⟨#[]⟩, .bool false, .int .i64 n, .string ⟨#[]⟩] 76)) (some ⟨v4.heap.size, 0, none⟩) 3 [.string s, .int .i64 p, .int .i64 n] := rdf_new v4 76 [.string s, .int .i64 p, .int .i64 n] 3 rfl
    have hb4 : Below w.heap.size w (v4.alloc (.cells #[Value.bool true, .int .i64 0, .string s, .bool false, .int .i64 p, .string ⟨#[]⟩, .bool false, .int .i64 n, .string ⟨#[]⟩] 76)) := HB.out.trans ((hq4.alloc hq4.size _).mono hsz)
    have HF := Lib.hid hf4
    have HBf := Lib.hid hb4
    clear hf4 hb4
    go_wp2
    go_ret2
    exact ⟨_, _, rfl, HF.out, Nat.le_refl _, HBf.out⟩
set_option maxRecDepth 100000 in
set_option maxHeartbeats 8000000 in
theorem fields_10 (s : ByteArray) (d n u p q : Int) (w : World) : Calls Try.prog 29 #[.agg #[.int .i64 10, .string s, .int .i64 d, .int .i64 n, .int .i64 u, .int .i64 p, .int .i64 q]] w fun e w' => ∃ (A : Option Addr) (c : Nat), e = .returned (.tuple #[.slice A 2 c, .bool true]) ∧ RdF w' A 2 [.int .i64 p, .int .i64 q] ∧ 2 ≤ c ∧ Below w.heap.size w w' := by
  have hHB : Holds (w.alloc (.cells #[Value.int .i64 10, .string s, .int .i64 d, .int .i64 n, .int .i64 u, .int .i64 p, .int .i64 q] 24)) w.heap.size [.int .i64 10, .string s, .int .i64 d, .int .i64 n, .int .i64 u, .int .i64 p, .int .i64 q] := by simpa using Holds.new w #[Value.int .i64 10, .string s, .int .i64 d, .int .i64 n, .int .i64 u, .int .i64 p, .int .i64 q] 24
  have hbb : Below w.heap.size w (w.alloc (.cells #[Value.int .i64 10, .string s, .int .i64 d, .int .i64 n, .int .i64 u, .int .i64 p, .int .i64 q] 24)) := (Below.refl _ _).alloc (Nat.le_refl _) _
  have HB := Lib.hid hbb
  have HH := Lib.hid hHB
  clear hbb hHB
  go_enter Try.func29, Try.ntmps29
  go_wp2_with fail
  generalize w.alloc (.cells #[Value.int .i64 10, .string s, .int .i64 d, .int .i64 n, .int .i64 u, .int .i64 p, .int .i64 q] 24) = w1 at *
  have hsz : w.heap.size ≤ w1.heap.size := HB.out.size
  have hc : ∀ wx, Below w1.heap.size w1 wx → wx.cell? ⟨w.heap.size, 5, none⟩ = some (.int .i64 p) ∧ wx.cell? ⟨w.heap.size, 6, none⟩ = some (.int .i64 q) := fun wx hx => by
    have k0 := HH.out.below hx
    exact ⟨k0.at_ 5 rfl, k0.at_ 6 rfl⟩
  have HC := Lib.hid hc
  clear hc
  have hd0 : Below w1.heap.size w1 w1.drew := (Below.refl _ _).drew
  have hc0 := HC.out _ hd0
  go_region_held3 (fun wx => wx.cell? ⟨w.heap.size, 5, none⟩ = some (.int .i64 p) ∧ wx.cell? ⟨w.heap.size, 6, none⟩ = some (.int .i64 q)) (first | exact hc0 | exact HC.out _ hq4 | exact HC.out _ (hq4.alloc hq4.size _)) (first | (go_at_call 38; refine (fnum_any _ _).mono ?_; rintro e v4 ⟨rfl, hb4⟩; have hq4 : Below w1.heap.size w1 v4 := below_next (by assumption) hb4) | (go_at_call 43; refine (ftext_any _ _).mono ?_; rintro e v4 ⟨rfl, hb4⟩; have hq4 : Below w1.heap.size w1 v4 := below_next (by assumption) hb4))
  · have hf4 : RdF (v4.alloc (.cells #[Value.bool false, .int .i64 p, .string ⟨#[]⟩, .bool false, .int .i64 q, .string ⟨#[]⟩] 76)) (some ⟨v4.heap.size, 0, none⟩) 2 [.int .i64 p, .int .i64 q] := rdf_new v4 76 [.int .i64 p, .int .i64 q] 2 rfl
    have hb4 : Below w.heap.size w (v4.alloc (.cells #[Value.bool false, .int .i64 p, .string ⟨#[]⟩, .bool false, .int .i64 q, .string ⟨#[]⟩] 76)) := HB.out.trans ((hq4.alloc hq4.size _).mono hsz)
    have HF := Lib.hid hf4
    have HBf := Lib.hid hb4
    clear hf4 hb4
    go_wp2
    go_ret2
    exact ⟨_, _, rfl, HF.out, Nat.le_refl _, HBf.out⟩
set_option maxRecDepth 100000 in
set_option maxHeartbeats 8000000 in
theorem fields_11 (s : ByteArray) (d n u p q : Int) (w : World) : Calls Try.prog 29 #[.agg #[.int .i64 11, .string s, .int .i64 d, .int .i64 n, .int .i64 u, .int .i64 p, .int .i64 q]] w fun e w' => ∃ (A : Option Addr) (c : Nat), e = .returned (.tuple #[.slice A 4 c, .bool true]) ∧ RdF w' A 4 [.int .i64 p, .int .i64 q, .string s, .int .i64 n] ∧ 4 ≤ c ∧ Below w.heap.size w w' := by
  have hHB : Holds (w.alloc (.cells #[Value.int .i64 11, .string s, .int .i64 d, .int .i64 n, .int .i64 u, .int .i64 p, .int .i64 q] 24)) w.heap.size [.int .i64 11, .string s, .int .i64 d, .int .i64 n, .int .i64 u, .int .i64 p, .int .i64 q] := by simpa using Holds.new w #[Value.int .i64 11, .string s, .int .i64 d, .int .i64 n, .int .i64 u, .int .i64 p, .int .i64 q] 24
  have hbb : Below w.heap.size w (w.alloc (.cells #[Value.int .i64 11, .string s, .int .i64 d, .int .i64 n, .int .i64 u, .int .i64 p, .int .i64 q] 24)) := (Below.refl _ _).alloc (Nat.le_refl _) _
  have HB := Lib.hid hbb
  have HH := Lib.hid hHB
  clear hbb hHB
  go_enter Try.func29, Try.ntmps29
  go_wp2_with fail
  generalize w.alloc (.cells #[Value.int .i64 11, .string s, .int .i64 d, .int .i64 n, .int .i64 u, .int .i64 p, .int .i64 q] 24) = w1 at *
  have hsz : w.heap.size ≤ w1.heap.size := HB.out.size
  have hc : ∀ wx, Below w1.heap.size w1 wx → wx.cell? ⟨w.heap.size, 5, none⟩ = some (.int .i64 p) ∧ wx.cell? ⟨w.heap.size, 6, none⟩ = some (.int .i64 q) ∧ wx.cell? ⟨w.heap.size, 1, none⟩ = some (.string s) ∧ wx.cell? ⟨w.heap.size, 3, none⟩ = some (.int .i64 n) := fun wx hx => by
    have k0 := HH.out.below hx
    exact ⟨k0.at_ 5 rfl, k0.at_ 6 rfl, k0.at_ 1 rfl, k0.at_ 3 rfl⟩
  have HC := Lib.hid hc
  clear hc
  have hd0 : Below w1.heap.size w1 w1.drew := (Below.refl _ _).drew
  have hc0 := HC.out _ hd0
  go_region_held3 (fun wx => wx.cell? ⟨w.heap.size, 5, none⟩ = some (.int .i64 p) ∧ wx.cell? ⟨w.heap.size, 6, none⟩ = some (.int .i64 q) ∧ wx.cell? ⟨w.heap.size, 1, none⟩ = some (.string s) ∧ wx.cell? ⟨w.heap.size, 3, none⟩ = some (.int .i64 n)) (first | exact hc0 | exact HC.out _ hq4 | exact HC.out _ (hq4.alloc hq4.size _)) (first | (go_at_call 38; refine (fnum_any _ _).mono ?_; rintro e v4 ⟨rfl, hb4⟩; have hq4 : Below w1.heap.size w1 v4 := below_next (by assumption) hb4) | (go_at_call 43; refine (ftext_any _ _).mono ?_; rintro e v4 ⟨rfl, hb4⟩; have hq4 : Below w1.heap.size w1 v4 := below_next (by assumption) hb4))
  · have hf4 : RdF (v4.alloc (.cells #[Value.bool false, .int .i64 p, .string ⟨#[]⟩, .bool false, .int .i64 q, .string ⟨#[]⟩, .bool true, .int .i64 0, .string s, .bool false, .int .i64 n, .string ⟨#[]⟩] 76)) (some ⟨v4.heap.size, 0, none⟩) 4 [.int .i64 p, .int .i64 q, .string s, .int .i64 n] := rdf_new v4 76 [.int .i64 p, .int .i64 q, .string s, .int .i64 n] 4 rfl
    have hb4 : Below w.heap.size w (v4.alloc (.cells #[Value.bool false, .int .i64 p, .string ⟨#[]⟩, .bool false, .int .i64 q, .string ⟨#[]⟩, .bool true, .int .i64 0, .string s, .bool false, .int .i64 n, .string ⟨#[]⟩] 76)) := HB.out.trans ((hq4.alloc hq4.size _).mono hsz)
    have HF := Lib.hid hf4
    have HBf := Lib.hid hb4
    clear hf4 hb4
    go_wp2
    go_ret2
    exact ⟨_, _, rfl, HF.out, Nat.le_refl _, HBf.out⟩
set_option maxRecDepth 100000 in
set_option maxHeartbeats 8000000 in
theorem fields_12 (s : ByteArray) (d n u p q : Int) (w : World) : Calls Try.prog 29 #[.agg #[.int .i64 12, .string s, .int .i64 d, .int .i64 n, .int .i64 u, .int .i64 p, .int .i64 q]] w fun e w' => ∃ (A : Option Addr) (c : Nat), e = .returned (.tuple #[.slice A 1 c, .bool true]) ∧ RdF w' A 1 [.string s] ∧ 1 ≤ c ∧ Below w.heap.size w w' := by
  have hHB : Holds (w.alloc (.cells #[Value.int .i64 12, .string s, .int .i64 d, .int .i64 n, .int .i64 u, .int .i64 p, .int .i64 q] 24)) w.heap.size [.int .i64 12, .string s, .int .i64 d, .int .i64 n, .int .i64 u, .int .i64 p, .int .i64 q] := by simpa using Holds.new w #[Value.int .i64 12, .string s, .int .i64 d, .int .i64 n, .int .i64 u, .int .i64 p, .int .i64 q] 24
  have hbb : Below w.heap.size w (w.alloc (.cells #[Value.int .i64 12, .string s, .int .i64 d, .int .i64 n, .int .i64 u, .int .i64 p, .int .i64 q] 24)) := (Below.refl _ _).alloc (Nat.le_refl _) _
  have HB := Lib.hid hbb
  have HH := Lib.hid hHB
  clear hbb hHB
  go_enter Try.func29, Try.ntmps29
  go_wp2_with fail
  generalize w.alloc (.cells #[Value.int .i64 12, .string s, .int .i64 d, .int .i64 n, .int .i64 u, .int .i64 p, .int .i64 q] 24) = w1 at *
  have hsz : w.heap.size ≤ w1.heap.size := HB.out.size
  refine (ftext_any _ _).mono ?_
  rintro e v4 ⟨rfl, hb4⟩
  have hq4 : Below w1.heap.size w1 v4 := hb4
  · have hf4 : RdF (v4.alloc (.cells #[Value.bool true, .int .i64 0, .string s] 76)) (some ⟨v4.heap.size, 0, none⟩) 1 [.string s] := rdf_new v4 76 [.string s] 1 rfl
    have hb4 : Below w.heap.size w (v4.alloc (.cells #[Value.bool true, .int .i64 0, .string s] 76)) := HB.out.trans ((hq4.alloc hq4.size _).mono hsz)
    have HF := Lib.hid hf4
    have HBf := Lib.hid hb4
    clear hf4 hb4
    go_wp2
    go_ret2
    exact ⟨_, _, rfl, HF.out, Nat.le_refl _, HBf.out⟩
end Go.Proofs.Ytonjjihbpeblkaa
