/- A step of both disks: what all kinds share. A step of both disks: kind None. A step of both disks: kind 2. A step of both disks: kind 3. A step of both disks: kind 4. -/
import Derived.Test.YtamdihodconjiaaRkDuo
import Derived.Deep.RegionHeld3
import Derived.Deep.DeepCutAuto
namespace Go.Proofs.Ytamdihodconjiaa
open Go.RowKit
set_option linter.unusedVariables false
def duoV (d g : Nat) : List Value := [.pointer (some ⟨d, 0, none⟩), .pointer (some ⟨g, 0, none⟩)]
/-- What Step gives. -/
def GivesStep (a : World) (bx cnt : Nat) (e : Ending) (w' : World) : Prop := e = .returned (.bool true) ∧ ∃ d g st lab labR, Duo a w' d g st cnt lab labR ∧ Holds w' bx (duoV d g) ∧ lab bx = .no ∧ labR bx = .no
theorem step_end {a W v2 : World} {bx d g cnt' : Nat} {st1 : Dk.St} {lab labR lab1 lab2 : Nat → Tag} (hx : Holds W bx (duoV d g)) (hl : lab bx = .no ∧ labR bx = .no) (hfr : Fr lab labR W v2) (hDu : Duo a v2 d g st1 cnt' lab1 lab2) (hL1 : Lab W lab lab1) (hL2 : Lab W labR lab2) : GivesStep a bx cnt' (.returned (.bool true)) v2 :=
  ⟨rfl, d, g, st1, lab1, lab2, hDu, hx.block hfr.size (hfr.block bx hx.1 hl.1 hl.2), (hL1 bx hx.1).trans hl.1, (hL2 bx hx.1).trans hl.2⟩
theorem Fr.drew {lab labR : Nat → Tag} {w v : World} (h : Fr lab labR w.drew v) : Fr lab labR w v := ⟨h.size, h.block⟩
theorem Lab.of_le {w w1 : World} {lab lab' : Nat → Tag} (h : Lab w1 lab lab') (hs : w.heap.size ≤ w1.heap.size) : Lab w lab lab' := fun k hk => h k (Nat.lt_of_lt_of_le hk hs)
/-- Cells of blocks that neither disk has. -/
theorem duo_cells {w : World} {bx d g ob : Nat} {lab labR : Nat → Tag} {os : List Value} (hx : Holds w bx (duoV d g)) (hl : lab bx = .no ∧ labR bx = .no) (ho : Holds w ob os) (hlo : lab ob = .no ∧ labR ob = .no) :
    ∀ wx, Fr lab labR w wx → Holds wx bx (duoV d g) ∧ Holds wx ob os := fun wx h => ⟨hx.block h.size (h.block bx hx.1 hl.1 hl.2), ho.block h.size (h.block ob ho.1 hlo.1 hlo.2)⟩
theorem Fr.of_below {lab labR : Nat → Tag} {w w' : World} (h : Below w.heap.size w w') : Fr lab labR w w' := ⟨h.size, fun k hk _ _ => h.block k hk⟩
theorem Rd.fr {lab labR : Nat → Tag} {w v : World} {A : Option Addr} {n : Nat} {l : List Nat} (h : Rd w A n l) (hu : ∀ q o, A = some ⟨q, o, none⟩ → 0 < n → lab q = .no ∧ labR q = .no) (hf : Fr lab labR w v) : Rd v A n l := by
  refine ⟨h.1, h.2.1, fun hn => ?_⟩
  obtain ⟨b, o, e, hb, hc⟩ := h.2.2 hn
  obtain ⟨u1, u2⟩ := hu b o e hn
  exact ⟨b, o, e, Nat.lt_of_lt_of_le hb hf.size, fun j x hx => (hf.cell hb u1 u2).trans (hc j x hx)⟩
end Go.Proofs.Ytamdihodconjiaa
namespace Go.Proofs.Ytamdihodconjiaa
open Go.RowKit
set_option linter.unusedVariables false
set_option maxRecDepth 100000 in
set_option maxHeartbeats 8000000 in
theorem step_other (s : DOp) (a w : World) (bx d g cnt : Nat) (st : Dk.St) (lab labR : Nat → Tag) (h : Duo a w d g st cnt lab labR) (hx : Holds w bx (duoV d g)) (hl : lab bx = .no ∧ labR bx = .no) (hcnt : cnt ≤ 900) (hmask : s.mask < 256) (hk : s.kind ≠ 1 ∧ s.kind ≠ 2 ∧ s.kind ≠ 3 ∧ s.kind ≠ 4 ∧ s.kind ≠ 5 ∧ s.kind ≠ 6) :
    Calls Try.prog 13 #[.pointer (some ⟨bx, 0, none⟩), .agg #[.int .i64 s.kind, .int .i64 s.at_, .slice s.A s.m s.c, .bool s.whole, .int .i64 s.n, .int .i64 s.place, .int .u8 (s.mask : Int), .slice s.F s.fm s.fc]] w (GivesStep a bx (cnt + 1)) := by
  have hob := Holds.new w #[.int .i64 s.kind, .int .i64 s.at_, .slice s.A s.m s.c, .bool s.whole, .int .i64 s.n, .int .i64 s.place, .int .u8 (s.mask : Int), .slice s.F s.fm s.fc] 38
  have hbw : Below w.heap.size w (w.alloc (.cells #[.int .i64 s.kind, .int .i64 s.at_, .slice s.A s.m s.c, .bool s.whole, .int .i64 s.n, .int .i64 s.place, .int .u8 (s.mask : Int), .slice s.F s.fm s.fc] 38)) := (Below.refl _ _).alloc (Nat.le_refl _) _
  have hno := h.new_ (Nat.le_refl _)
  have HD := Lib.hid (h.below hbw)
  have HX := Lib.hid (hx.below hbw)
  have HO := Lib.hid hob
  have HNo := Lib.hid hno
  have HL := Lib.hid hl
  have HM := Lib.hid hmask
  clear h hx hob hno hl hmask
  go_enter Try.func13, Try.ntmps13
  go_upto_region 1 with fail
  generalize (w.alloc (.cells #[.int .i64 s.kind, .int .i64 s.at_, .slice s.A s.m s.c, .bool s.whole, .int .i64 s.n, .int .i64 s.place, .int .u8 (s.mask : Int), .slice s.F s.fm s.fc] 38)) = w1 at *
  have HCs := Lib.hid (duo_cells HX.out HL.out HO.out HNo.out)
  have o0 := HO.out.at_ 0 rfl
  have ho := HO.out.1
  have hbx := HX.out.1
  have hd0 : Below w1.heap.size w1 w1.drew := (Below.refl _ _).drew
  obtain ⟨k1, k2, k3, k4, k5, k6⟩ := hk
  have k1 : (s.kind == 1) = false := by simpa using k1
  have k2 : (s.kind == 2) = false := by simpa using k2
  have k3 : (s.kind == 3) = false := by simpa using k3
  have k4 : (s.kind == 4) = false := by simpa using k4
  have k5 : (s.kind == 5) = false := by simpa using k5
  have k6 : (s.kind == 6) = false := by simpa using k6
  have HEnd := Lib.hid (show GivesStep a bx (cnt + 1) (.returned (.bool true)) w1 from ⟨rfl, d, g, st, lab, labR, HD.out.more, HX.out, HL.out⟩)
  go_wp2
  go_ret
  exact HEnd.out
end Go.Proofs.Ytamdihodconjiaa
namespace Go.Proofs.Ytamdihodconjiaa
open Go.RowKit
set_option linter.unusedVariables false
set_option maxRecDepth 100000 in
set_option maxHeartbeats 8000000 in
theorem step_flush (s : DOp) (a w : World) (bx d g cnt : Nat) (st : Dk.St) (lab labR : Nat → Tag) (h : Duo a w d g st cnt lab labR) (hx : Holds w bx (duoV d g)) (hl : lab bx = .no ∧ labR bx = .no) (hcnt : cnt ≤ 900) (hmask : s.mask < 256) :
    Calls Try.prog 13 #[.pointer (some ⟨bx, 0, none⟩), .agg #[.int .i64 2, .int .i64 s.at_, .slice s.A s.m s.c, .bool s.whole, .int .i64 s.n, .int .i64 s.place, .int .u8 (s.mask : Int), .slice s.F s.fm s.fc]] w (GivesStep a bx (cnt + 1)) := by
  have hob := Holds.new w #[.int .i64 2, .int .i64 s.at_, .slice s.A s.m s.c, .bool s.whole, .int .i64 s.n, .int .i64 s.place, .int .u8 (s.mask : Int), .slice s.F s.fm s.fc] 38
  have hbw : Below w.heap.size w (w.alloc (.cells #[.int .i64 2, .int .i64 s.at_, .slice s.A s.m s.c, .bool s.whole, .int .i64 s.n, .int .i64 s.place, .int .u8 (s.mask : Int), .slice s.F s.fm s.fc] 38)) := (Below.refl _ _).alloc (Nat.le_refl _) _
  have hno := h.new_ (Nat.le_refl _)
  have HD := Lib.hid (h.below hbw)
  have HX := Lib.hid (hx.below hbw)
  have HO := Lib.hid hob
  have HNo := Lib.hid hno
  have HL := Lib.hid hl
  have HM := Lib.hid hmask
  clear h hx hob hno hl hmask
  go_enter Try.func13, Try.ntmps13
  go_upto_region 1 with fail
  generalize (w.alloc (.cells #[.int .i64 2, .int .i64 s.at_, .slice s.A s.m s.c, .bool s.whole, .int .i64 s.n, .int .i64 s.place, .int .u8 (s.mask : Int), .slice s.F s.fm s.fc] 38)) = w1 at *
  have HCs := Lib.hid (duo_cells HX.out HL.out HO.out HNo.out)
  have o0 := HO.out.at_ 0 rfl
  have ho := HO.out.1
  have hbx := HX.out.1
  have hd0 : Below w1.heap.size w1 w1.drew := (Below.refl _ _).drew
  have HS := Lib.hid (fun wx (hf : Fr lab labR w1 wx) => (⟨(HCs.out wx hf).1.at_ 0 rfl, (HCs.out wx hf).1.at_ 1 rfl⟩ : wx.cell? ⟨bx, 0, none⟩ = some (.pointer (some ⟨d, 0, none⟩)) ∧ wx.cell? ⟨bx, 1, none⟩ = some (.pointer (some ⟨g, 0, none⟩))))
  have HW1 := Lib.hid (fun wx (hb : Below w1.heap.size w1 wx) => flush_any cnt wx d lab st (HD.out.below hb).disk HD.out.low (by omega))
  have HW2 := Lib.hid (fun wx (hf : Fr lab labR w1 wx) (hr : IsRef wx g labR st) => rflush_any wx g labR st hr (HD.out.low.small (by omega)))
  go_upto_region 9 with fail
  clear o0
  go_region_held3 (fun wx => wx.cell? ⟨bx, 0, none⟩ = some (.pointer (some ⟨d, 0, none⟩)) ∧ wx.cell? ⟨bx, 1, none⟩ = some (.pointer (some ⟨g, 0, none⟩))) (first | exact HS.out _ (Fr.of_below hd0) | exact HS.out _ hfr | exact HS.out _ hfr2) (first
    | (go_at_call 17; refine (HW1.out _ hd0).mono ?_; rintro e v1 ⟨rfl, lab1, hD1, hC1, hL1⟩; have hh := (HD.out.below hd0).half hD1 hC1 hL1; have hfr : Fr lab labR w1 v1 := hh.fr.drew)
    | (go_at_call 31; refine (HW2.out v1 hfr hh.ref).mono ?_; rintro e v2 ⟨rfl, hl2⟩; obtain ⟨lab2, hDu, hfr2', hL2⟩ := hh.whole (HD.out.below hd0) hl2 (low_flush HD.out.low); have hfr2 : Fr lab labR w1 v2 := hfr2'.drew))
  all_goals
    have HE := Lib.hid (step_end HX.out HL.out hfr2 hDu (hL1.of_le (Nat.le_refl _)) (hL2.of_le hfr.size))
    clear hDu hfr2 hfr hh hl2 hL2 hfr2' hC1 hL1 hD1
    go_wp2
    go_ret
    exact HE.out
end Go.Proofs.Ytamdihodconjiaa
namespace Go.Proofs.Ytamdihodconjiaa
open Go.RowKit
set_option linter.unusedVariables false
set_option maxRecDepth 100000 in
set_option maxHeartbeats 8000000 in
theorem step_fuse (s : DOp) (a w : World) (bx d g cnt : Nat) (st : Dk.St) (lab labR : Nat → Tag) (h : Duo a w d g st cnt lab labR) (hx : Holds w bx (duoV d g)) (hl : lab bx = .no ∧ labR bx = .no) (hcnt : cnt ≤ 900) (hmask : s.mask < 256) :
    Calls Try.prog 13 #[.pointer (some ⟨bx, 0, none⟩), .agg #[.int .i64 3, .int .i64 s.at_, .slice s.A s.m s.c, .bool s.whole, .int .i64 s.n, .int .i64 s.place, .int .u8 (s.mask : Int), .slice s.F s.fm s.fc]] w (GivesStep a bx (cnt + 1)) := by
  have hob := Holds.new w #[.int .i64 3, .int .i64 s.at_, .slice s.A s.m s.c, .bool s.whole, .int .i64 s.n, .int .i64 s.place, .int .u8 (s.mask : Int), .slice s.F s.fm s.fc] 38
  have hbw : Below w.heap.size w (w.alloc (.cells #[.int .i64 3, .int .i64 s.at_, .slice s.A s.m s.c, .bool s.whole, .int .i64 s.n, .int .i64 s.place, .int .u8 (s.mask : Int), .slice s.F s.fm s.fc] 38)) := (Below.refl _ _).alloc (Nat.le_refl _) _
  have hno := h.new_ (Nat.le_refl _)
  have HD := Lib.hid (h.below hbw)
  have HX := Lib.hid (hx.below hbw)
  have HO := Lib.hid hob
  have HNo := Lib.hid hno
  have HL := Lib.hid hl
  have HM := Lib.hid hmask
  clear h hx hob hno hl hmask
  go_enter Try.func13, Try.ntmps13
  go_upto_region 1 with fail
  generalize (w.alloc (.cells #[.int .i64 3, .int .i64 s.at_, .slice s.A s.m s.c, .bool s.whole, .int .i64 s.n, .int .i64 s.place, .int .u8 (s.mask : Int), .slice s.F s.fm s.fc] 38)) = w1 at *
  have HCs := Lib.hid (duo_cells HX.out HL.out HO.out HNo.out)
  have o0 := HO.out.at_ 0 rfl
  have ho := HO.out.1
  have hbx := HX.out.1
  have hd0 : Below w1.heap.size w1 w1.drew := (Below.refl _ _).drew
  have HS := Lib.hid (fun wx (hf : Fr lab labR w1 wx) => (⟨(HCs.out wx hf).1.at_ 0 rfl, (HCs.out wx hf).1.at_ 1 rfl, (HCs.out wx hf).2.at_ 4 rfl⟩ : wx.cell? ⟨bx, 0, none⟩ = some (.pointer (some ⟨d, 0, none⟩)) ∧ wx.cell? ⟨bx, 1, none⟩ = some (.pointer (some ⟨g, 0, none⟩)) ∧ wx.cell? ⟨w.heap.size, 4, none⟩ = some (.int .i64 s.n)))
  have HW1 := Lib.hid (fun wx (hb : Below w1.heap.size w1 wx) => fuse_m s.n wx d lab st (HD.out.below hb).disk)
  have HW2 := Lib.hid (fun wx (hf : Fr lab labR w1 wx) (hr : IsRef wx g labR st) => rfuse_any s.n wx g labR st hr)
  go_upto_region 11 with fail
  clear o0
  go_region_held3 (fun wx => wx.cell? ⟨bx, 0, none⟩ = some (.pointer (some ⟨d, 0, none⟩)) ∧ wx.cell? ⟨bx, 1, none⟩ = some (.pointer (some ⟨g, 0, none⟩)) ∧ wx.cell? ⟨w.heap.size, 4, none⟩ = some (.int .i64 s.n)) (first | exact HS.out _ (Fr.of_below hd0) | exact HS.out _ hfr | exact HS.out _ hfr2) (first
    | (go_at_call 25; refine (HW1.out _ hd0).mono ?_; rintro e v1 ⟨rfl, lab1, hD1, hC1, hL1⟩; have hh := (HD.out.below hd0).half hD1 hC1 hL1; have hfr : Fr lab labR w1 v1 := hh.fr.drew)
    | (go_at_call 32; refine (HW2.out v1 hfr hh.ref).mono ?_; rintro e v2 ⟨rfl, hl2⟩; obtain ⟨lab2, hDu, hfr2', hL2⟩ := hh.whole (HD.out.below hd0) hl2 (low_fuse HD.out.low s.n); have hfr2 : Fr lab labR w1 v2 := hfr2'.drew))
  all_goals
    have HE := Lib.hid (step_end HX.out HL.out hfr2 hDu (hL1.of_le (Nat.le_refl _)) (hL2.of_le hfr.size))
    clear hDu hfr2 hfr hh hl2 hL2 hfr2' hC1 hL1 hD1
    go_wp2
    go_ret
    exact HE.out
end Go.Proofs.Ytamdihodconjiaa
namespace Go.Proofs.Ytamdihodconjiaa
open Go.RowKit
set_option linter.unusedVariables false
set_option maxRecDepth 100000 in
set_option maxHeartbeats 8000000 in
theorem step_rot (s : DOp) (a w : World) (bx d g cnt : Nat) (st : Dk.St) (lab labR : Nat → Tag) (h : Duo a w d g st cnt lab labR) (hx : Holds w bx (duoV d g)) (hl : lab bx = .no ∧ labR bx = .no) (hcnt : cnt ≤ 900) (hmask : s.mask < 256) :
    Calls Try.prog 13 #[.pointer (some ⟨bx, 0, none⟩), .agg #[.int .i64 4, .int .i64 s.at_, .slice s.A s.m s.c, .bool s.whole, .int .i64 s.n, .int .i64 s.place, .int .u8 (s.mask : Int), .slice s.F s.fm s.fc]] w (GivesStep a bx (cnt + 1)) := by
  have hob := Holds.new w #[.int .i64 4, .int .i64 s.at_, .slice s.A s.m s.c, .bool s.whole, .int .i64 s.n, .int .i64 s.place, .int .u8 (s.mask : Int), .slice s.F s.fm s.fc] 38
  have hbw : Below w.heap.size w (w.alloc (.cells #[.int .i64 4, .int .i64 s.at_, .slice s.A s.m s.c, .bool s.whole, .int .i64 s.n, .int .i64 s.place, .int .u8 (s.mask : Int), .slice s.F s.fm s.fc] 38)) := (Below.refl _ _).alloc (Nat.le_refl _) _
  have hno := h.new_ (Nat.le_refl _)
  have HD := Lib.hid (h.below hbw)
  have HX := Lib.hid (hx.below hbw)
  have HO := Lib.hid hob
  have HNo := Lib.hid hno
  have HL := Lib.hid hl
  have HM := Lib.hid hmask
  clear h hx hob hno hl hmask
  go_enter Try.func13, Try.ntmps13
  go_upto_region 1 with fail
  generalize (w.alloc (.cells #[.int .i64 4, .int .i64 s.at_, .slice s.A s.m s.c, .bool s.whole, .int .i64 s.n, .int .i64 s.place, .int .u8 (s.mask : Int), .slice s.F s.fm s.fc] 38)) = w1 at *
  have HCs := Lib.hid (duo_cells HX.out HL.out HO.out HNo.out)
  have o0 := HO.out.at_ 0 rfl
  have ho := HO.out.1
  have hbx := HX.out.1
  have hd0 : Below w1.heap.size w1 w1.drew := (Below.refl _ _).drew
  have HS := Lib.hid (fun wx (hf : Fr lab labR w1 wx) => (⟨(HCs.out wx hf).1.at_ 0 rfl, (HCs.out wx hf).1.at_ 1 rfl, (HCs.out wx hf).2.at_ 1 rfl, (HCs.out wx hf).2.at_ 5 rfl, (HCs.out wx hf).2.at_ 6 rfl⟩ : wx.cell? ⟨bx, 0, none⟩ = some (.pointer (some ⟨d, 0, none⟩)) ∧ wx.cell? ⟨bx, 1, none⟩ = some (.pointer (some ⟨g, 0, none⟩)) ∧ wx.cell? ⟨w.heap.size, 1, none⟩ = some (.int .i64 s.at_) ∧ wx.cell? ⟨w.heap.size, 5, none⟩ = some (.int .i64 s.place) ∧ wx.cell? ⟨w.heap.size, 6, none⟩ = some (.int .u8 (s.mask : Int))))
  have HW1 := Lib.hid (fun wx (hb : Below w1.heap.size w1 wx) => rot_any s.at_ s.place s.mask HM.out wx d lab st (HD.out.below hb).disk)
  have HW2 := Lib.hid (fun wx (hf : Fr lab labR w1 wx) (hr : IsRef wx g labR st) => rrot_any s.at_ s.place s.mask HM.out wx g labR st hr)
  go_upto_region 13 with fail
  clear o0
  go_region_held3 (fun wx => wx.cell? ⟨bx, 0, none⟩ = some (.pointer (some ⟨d, 0, none⟩)) ∧ wx.cell? ⟨bx, 1, none⟩ = some (.pointer (some ⟨g, 0, none⟩)) ∧ wx.cell? ⟨w.heap.size, 1, none⟩ = some (.int .i64 s.at_) ∧ wx.cell? ⟨w.heap.size, 5, none⟩ = some (.int .i64 s.place) ∧ wx.cell? ⟨w.heap.size, 6, none⟩ = some (.int .u8 (s.mask : Int))) (first | exact HS.out _ (Fr.of_below hd0) | exact HS.out _ hfr | exact HS.out _ hfr2) (first
    | (go_at_call 28; refine (HW1.out _ hd0).mono ?_; rintro e v1 ⟨rfl, lab1, hD1, hC1, hL1⟩; have hh := (HD.out.below hd0).half hD1 hC1 hL1; have hfr : Fr lab labR w1 v1 := hh.fr.drew)
    | (go_at_call 33; refine (HW2.out v1 hfr hh.ref).mono ?_; rintro e v2 ⟨rfl, hl2⟩; obtain ⟨lab2, hDu, hfr2', hL2⟩ := hh.whole (HD.out.below hd0) hl2 (low_rot HD.out.low s.at_ s.place s.mask); have hfr2 : Fr lab labR w1 v2 := hfr2'.drew))
  all_goals
    have HE := Lib.hid (step_end HX.out HL.out hfr2 hDu (hL1.of_le (Nat.le_refl _)) (hL2.of_le hfr.size))
    clear hDu hfr2 hfr hh hl2 hL2 hfr2' hC1 hL1 hD1
    go_wp2
    go_ret
    exact HE.out
end Go.Proofs.Ytamdihodconjiaa
