/- file's first, must, ask: what all calls ask first. -/
import Derived.Test.YtpggomekbahddaaFiCheck
import Derived.Test.YtpggomekbahddaaFiSect
import Derived.Test.YtpggomekbahddaaDkG
import Derived.Deep.QuietTactic
import Derived.BigQuiet
namespace Go.Proofs.Ytpggomekbahddaa
open Go.RowKit Fi
set_option linter.unusedVariables false
namespace Fi
def pan (k : Int) : List PanicEntry := [{ v := .iface 26 (.int .i64 k), recovered := false }]
end Fi
set_option maxRecDepth 100000 in
theorem must_ok (w : World) : Calls Try.prog 43 #[.int .i64 0] w fun e w' => e = .returned (.tuple #[]) ∧ w = w' := by
  go_enter Try.func43, Try.ntmps43
  go_wp2_with fail
  exact ⟨rfl, _, results_none rfl _ _ _, rfl, rfl⟩
set_option maxRecDepth 100000 in
theorem must_no (k : Int) (h : ¬ k = 0) (w : World) : Calls Try.prog 43 #[.int .i64 k] w fun e w' => e = .panicked (Fi.pan k) ∧ w = w' := by
  have hk : (k != 0) = true := by simpa using h
  go_enter Try.func43, Try.ntmps43
  go_wp2_with fail
  exact ⟨rfl, rfl, rfl⟩
set_option maxRecDepth 100000 in
theorem ask_ok (k : Int) (w : World) : Calls Try.prog 51 #[.bool true, .int .i64 k] w fun e w' => e = .returned (.tuple #[]) ∧ w = w' := by
  go_enter Try.func51, Try.ntmps51
  go_wp2_with fail
  exact ⟨rfl, _, results_none rfl _ _ _, rfl, rfl⟩
set_option maxRecDepth 100000 in
theorem ask_no (k : Int) (w : World) : Calls Try.prog 51 #[.bool false, .int .i64 k] w fun e w' => e = .panicked (Fi.pan k) ∧ w = w' := by
  go_enter Try.func51, Try.ntmps51
  go_wp2_with fail
  exact ⟨rfl, rfl, rfl⟩
set_option maxRecDepth 100000 in
set_option maxHeartbeats 4000000 in
theorem first_ok (P : Pl) (A : Option Addr) (c : Nat) (kind epoch : Int) (i : Nat) (x y : Int) (w : World) (d : Nat) (lab : Nat → Tag) (st : Dk.St) (h : IsDisk w d lab st) (hr : RdC 2 w A P.ps.length (pv P.ps)) (hok : ok P (Sp.plots st.s.length) = true)
    (hk : 1 ≤ kind ∧ kind ≤ 4) (he : P.e ≤ epoch ∧ epoch ≤ 2147483647) (hf : fr P (i : Int) = (x, y, 0)) (hs : st.s.length ≤ 4096 ∧ 0 < st.s.length) :
    Calls Try.prog 41 #[.pointer (some ⟨d, 0, none⟩), Fi.val P A c, .int .i64 kind, .int .i64 epoch, .int .i64 (i : Int)] w fun e w' => e = .returned (.agg #[.int .i64 x, .int .i64 y]) ∧ Below w.heap.size w w' := by
  have hl : P.ps.length ≤ 64 := (okH_iff.1 (ok_iff.1 hok).1).2.2.2.2.2
  have HSz := Lib.hid (fun v (hb : Below w.heap.size w v) => size_any v d lab st (h.below hb))
  have HC := Lib.hid (fun v (hb : Below w.heap.size w v) => fcheck_any P (st.s.length : Int) (by omega) A c v (by omega) (hr.below hb))
  have HS := Lib.hid (fun v (hb : Below w.heap.size w v) => sectors_any P (i : Int) A c v (by omega) (hr.below hb))
  rw [hf] at HS
  rw [hok] at HC
  have hb0 : Below w.heap.size w (w.alloc (.cells #[.int .i64 P.i, .int .i64 P.e, .slice A P.ps.length c] 31)) := (Below.refl _ _).alloc (Nat.le_refl _) _
  have hk0 := Holds.new w #[.int .i64 P.i, .int .i64 P.e, .slice A P.ps.length c] 31
  unfold Fi.val at HC HS ⊢
  obtain ⟨N, hN⟩ : ∃ N, N = st.s.length := ⟨_, rfl⟩
  rw [← hN] at HC HSz hs
  have hn : (0 : Int) < (N : Int) := by omega
  have z2 : ∀ v, (zeroValue 76).run Try.prog v = .ok (.agg #[.int .i64 0, .int .i64 0]) v := fun v => by kernel_rfl
  obtain ⟨k1, k2⟩ := hk
  obtain ⟨e1, e2⟩ := he
  clear hN hok hr h hf hl
  go_enter Try.func41, Try.ntmps41
  go_wp2_with fail
  have HB1 := Lib.hid (show Below w.heap.size w ((w.alloc (.cells #[.int .i64 P.i, .int .i64 P.e, .slice A P.ps.length c] 31)).alloc (.cells #[.int .i64 0, .int .i64 0] 76)) from hb0.alloc hb0.size _)
  have HK1 := Lib.hid (hk0.alloc (.cells #[.int .i64 0, .int .i64 0] 76))
  have HG1 := Lib.hid (show Holds ((w.alloc (.cells #[.int .i64 P.i, .int .i64 P.e, .slice A P.ps.length c] 31)).alloc (.cells #[.int .i64 0, .int .i64 0] 76)) (w.heap.size + 1) [.int .i64 0, .int .i64 0] by
    have := Holds.new (w.alloc (.cells #[.int .i64 P.i, .int .i64 P.e, .slice A P.ps.length c] 31)) #[.int .i64 0, .int .i64 0] 76
    simpa using this)
  clear hb0 hk0
  refine (HSz.out _ HB1.out).mono ?_
  generalize ((w.alloc (.cells #[.int .i64 P.i, .int .i64 P.e, .slice A P.ps.length c] 31)).alloc (.cells #[.int .i64 0, .int .i64 0] 76)) = v at *
  rintro e v1 ⟨rfl, rfl⟩
  go_wp2_with fail
  refine (ask_ok 4 v).mono ?_
  rintro e v1 ⟨rfl, rfl⟩
  have HCl := Lib.hid (show ∀ wx, Below v.heap.size v wx → wx.cell? ⟨w.heap.size, 0, none⟩ = some (.int .i64 P.i) ∧ wx.cell? ⟨w.heap.size, 1, none⟩ = some (.int .i64 P.e) ∧ wx.cell? ⟨w.heap.size, 2, none⟩ = some (.slice A P.ps.length c) from fun wx hb => ⟨(HK1.out.below hb).at_ 0 rfl, (HK1.out.below hb).at_ 1 rfl, (HK1.out.below hb).at_ 2 rfl⟩)
  go_upto_region 3 with fail
  refine region_class (fun w' => Below v.heap.size v w') (by kernel_rfl) (by kernel_rfl) ((Below.refl _ _).drew) ?_
  repeat (go_big_quiet_step ((first | (intro _; with_reducible rfl) | (intro hq; exact calls_class hq ((HSz.out _ (HB1.out.trans (hq.mono HB1.out.size))).mono fun _ _ hx => ⟨hx.1, by rw [hx.2]; exact Below.refl _ _⟩)) | (intro hq; exact calls_class hq (HC.out _ (HB1.out.trans (hq.mono HB1.out.size)))) | (intro hq; exact calls_class hq ((must_ok _).mono fun _ _ hx => ⟨hx.1, by rw [hx.2]; exact Below.refl _ _⟩)) | (intro hq; obtain ⟨e0, e1, e2⟩ := HCl.out _ hq; simp [e0, e1, e2, Result.andThen]; with_reducible rfl))))
  refine wpQuiet_nil ?_
  intro v9 hv9
  have HB9 := Lib.hid (HB1.out.trans (hv9.mono HB1.out.size))
  have HK9 := Lib.hid (HK1.out.below hv9)
  have HG9 := Lib.hid (HG1.out.below hv9)
  have c1 := HK9.out.at_ 1 rfl
  clear hv9 HB1 HK1 HG1 HCl
  go_wp2_with fail
  refine (ask_ok 1 v9).mono ?_
  rintro e v1 ⟨rfl, rfl⟩
  have c0 := HK9.out.at_ 0 rfl
  have c2 := HK9.out.at_ 2 rfl
  go_wp2_with fail
  refine (HS.out _ HB9.out).mono ?_
  rintro e v10 ⟨rfl, hb10⟩
  have hg := HG9.out.below hb10
  have HB10 := Lib.hid (HB9.out.trans (hb10.mono HB9.out.size))
  have g0 := hg.at_ 0 rfl
  have g1 := hg.at_ 1 rfl
  have f0 := hg.2.2 0
  have f1 := hg.2.2 1
  have hfin := (hg.set 0 (.int .i64 x) (by simp)).set 1 (.int .i64 y) (by simp)
  have r0 := hfin.at_ 0 rfl
  have r1 := hfin.at_ 1 rfl
  have HBf := Lib.hid ((HB10.out.setCell (p := ⟨w.heap.size + 1, 0, none⟩) (by show w.heap.size ≤ w.heap.size + 1; omega) (.int .i64 x)).setCell (p := ⟨w.heap.size + 1, 1, none⟩) (by show w.heap.size ≤ w.heap.size + 1; omega) (.int .i64 y))
  clear hb10 hg hfin c0 c1 c2
  go_wp2_with fail
  refine (must_ok _).mono ?_
  rintro e v1 ⟨rfl, rfl⟩
  go_wp2_with fail
  refine bodyPost_ret (v := .agg #[.int .i64 x, .int .i64 y]) ?_ rfl ?_
  · simp [results, Try.results41, go_sem, r0, r1]
  · exact ⟨rfl, HBf.out⟩
end Go.Proofs.Ytpggomekbahddaa
