/- A log in memory: what it tells of itself. -/
import Derived.Test.YtpggomekbahddaaM04
import Derived.Test.YtpggomekbahddaaFgNeed
import Derived.BigQuiet
namespace Go.Proofs.Ytpggomekbahddaa
open Go.RowKit Fi Fr
set_option linter.unusedVariables false
set_option maxRecDepth 100000 in
theorem made_any (lb d n cp : Nat) (A : Option Addr) (e kind taken E rec : Int) (w : World) (h : Holds w lb [.int .i64 7, .int .i64 e, .slice A n cp, .int .i64 kind, .int .i64 taken, .pointer (some ⟨d, 0, none⟩), .int .i64 E, .int .i64 rec]) : Calls Try.prog 26 #[.pointer (some ⟨lb, 0, none⟩)] w fun x w' => x = .returned (.bool true) ∧ w = w' := by
  have c5 := h.at_ 5 rfl
  clear h
  go_enter Try.func26, Try.ntmps26
  go_wp2
  go_ret
  exact ⟨rfl, rfl⟩
set_option maxRecDepth 100000 in
theorem made_none (w : World) : Calls Try.prog 26 #[.pointer none] w fun x w' => x = .returned (.bool false) ∧ w = w' := by
  go_enter Try.func26, Try.ntmps26
  go_wp2
  go_ret
  exact ⟨rfl, rfl⟩
set_option maxRecDepth 100000 in
theorem made_zero (lb : Nat) (c0 c1 c2 c3 c4 c6 c7 : Value) (w : World) (h : Holds w lb [c0, c1, c2, c3, c4, .pointer none, c6, c7]) : Calls Try.prog 26 #[.pointer (some ⟨lb, 0, none⟩)] w fun x w' => x = .returned (.bool false) ∧ w = w' := by
  have c5 := h.at_ 5 rfl
  clear h
  go_enter Try.func26, Try.ntmps26
  go_wp2
  go_ret
  exact ⟨rfl, rfl⟩
set_option maxRecDepth 100000 in
theorem lframes_any (lb d n cp : Nat) (A : Option Addr) (e kind taken E rec : Int) (w : World) (h : Holds w lb [.int .i64 7, .int .i64 e, .slice A n cp, .int .i64 kind, .int .i64 taken, .pointer (some ⟨d, 0, none⟩), .int .i64 E, .int .i64 rec]) : Calls Try.prog 11 #[.pointer (some ⟨lb, 0, none⟩)] w fun x w' => x = .returned (.int .i64 taken) ∧ w = w' := by
  have C := Lib.hid (made_any lb d n cp A e kind taken E rec w h)
  have c4 := h.at_ 4 rfl
  clear h
  go_enter Try.func11, Try.ntmps11
  go_wp2_with fail
  refine C.out.mono ?_
  rintro x v ⟨rfl, rfl⟩
  go_wp2
  go_ret
  exact ⟨rfl, rfl⟩
set_option maxRecDepth 100000 in
theorem records_any (lb d n cp : Nat) (A : Option Addr) (e kind taken E rec : Int) (w : World) (h : Holds w lb [.int .i64 7, .int .i64 e, .slice A n cp, .int .i64 kind, .int .i64 taken, .pointer (some ⟨d, 0, none⟩), .int .i64 E, .int .i64 rec]) : Calls Try.prog 16 #[.pointer (some ⟨lb, 0, none⟩)] w fun x w' => x = .returned (.int .i64 rec) ∧ w = w' := by
  have C := Lib.hid (made_any lb d n cp A e kind taken E rec w h)
  have c7 := h.at_ 7 rfl
  clear h
  go_enter Try.func16, Try.ntmps16
  go_wp2_with fail
  refine C.out.mono ?_
  rintro x v ⟨rfl, rfl⟩
  go_wp2
  go_ret
  exact ⟨rfl, rfl⟩
set_option maxRecDepth 100000 in
theorem left_any (lb d n cp : Nat) (A : Option Addr) (e kind taken E rec : Int) (w : World) (h : Holds w lb [.int .i64 7, .int .i64 e, .slice A n cp, .int .i64 kind, .int .i64 taken, .pointer (some ⟨d, 0, none⟩), .int .i64 E, .int .i64 rec]) (hn : n ≤ 3) (ht : 0 ≤ taken ∧ taken ≤ 8 * (n : Int)) : Calls Try.prog 15 #[.pointer (some ⟨lb, 0, none⟩)] w fun x w' => x = .returned (.int .i64 (8 * (n : Int) - taken)) ∧ Below w.heap.size w w' := by
  have C := Lib.hid (made_any lb d n cp A e kind taken E rec w h)
  have HC := Lib.hid (fun (W : World) (hW : Below w.heap.size w W) => And.intro ((h.below hW).at_ 0 rfl) (And.intro ((h.below hW).at_ 1 rfl) (And.intro ((h.below hW).at_ 2 rfl) ((h.below hW).at_ 4 rfl))))
  have HF := Lib.hid (fun (W : World) => show Calls Try.prog 31 #[.agg #[.int .i64 7, .int .i64 e, .slice A n cp]] W (fun x w' => x = .returned (.int .i64 (8 * (n : Int))) ∧ Below W.heap.size W w') from by
    have := frames_any (Wl.pl n e) A cp W (by show (Wl.pairs n).length ≤ 1000; rw [Wl.pairs_len hn]; omega)
    unfold Fi.val Wl.pl at this
    dsimp only at this
    rw [Wl.pairs_len hn] at this
    exact this)
  have hw1 : IntKind.i64.wrap (8 * (n : Int) - taken) = 8 * (n : Int) - taken := by rw [IntKind.wrap_i64]; omega
  clear h
  go_enter Try.func15, Try.ntmps15
  go_wp2_with fail
  refine C.out.mono ?_
  rintro x v ⟨rfl, rfl⟩
  go_upto_region 3 with fail
  refine region_class (fun w' => Below w.heap.size w w') (by kernel_rfl) (by kernel_rfl) ((Below.refl _ _).drew) ?_
  repeat (go_big_quiet_step ((first | (intro _; with_reducible rfl) | (intro hq; exact calls_class hq (HF.out _)) | (intro hq; obtain ⟨e0, e1, e2, e3⟩ := HC.out _ hq; simp [e0, e1, e2, e3, Result.andThen]; with_reducible rfl))))
  refine wpQuiet_nil ?_
  intro v hv
  have HV := Lib.hid hv
  clear hv
  go_wp2
  go_ret
  exact ⟨rfl, HV.out⟩
/-- Is there room for records of so many bytes? -/
def Wl.fits (n : Nat) (taken : Int) (zs : List Int) : Bool := decide ((Fg.need zs).2 = 0) && decide ((Fg.need zs).1 ≤ 8 * (n : Int) - taken)
set_option maxRecDepth 100000 in
theorem fits_any (lb d n cp : Nat) (A : Option Addr) (e kind taken E rec : Int) (B : Option Addr) (m c : Nat) (zs : List Int) (w : World) (h : Holds w lb [.int .i64 7, .int .i64 e, .slice A n cp, .int .i64 kind, .int .i64 taken, .pointer (some ⟨d, 0, none⟩), .int .i64 E, .int .i64 rec]) (hn : n ≤ 3) (ht : 0 ≤ taken ∧ taken ≤ 8 * (n : Int)) (hr : RdZ w B m zs) (hm : m ≤ 300) (hz : ∀ z ∈ zs, -9223372036854775808 ≤ z ∧ z ≤ 9223372036854775807) :
    Calls Try.prog 17 #[.pointer (some ⟨lb, 0, none⟩), .slice B m c] w fun x w' => x = .returned (.bool (Wl.fits n taken zs)) ∧ Below w.heap.size w w' := by
  have C := Lib.hid (made_any lb d n cp A e kind taken E rec w h)
  have CN := Lib.hid (need_any B m c zs w hr hm hz)
  have CL := Lib.hid (fun (W : World) (hW : Below w.heap.size w W) => left_any lb d n cp A e kind taken E rec W (h.below hW) hn ht)
  unfold Wl.fits
  generalize Fg.need zs = nd at *
  clear h hr hz ht
  go_enter Try.func17, Try.ntmps17
  go_wp2_with fail
  refine C.out.mono ?_
  rintro x v ⟨rfl, rfl⟩
  go_wp2_with fail
  refine CN.out.mono ?_
  rintro x v ⟨rfl, hb⟩
  have HB := Lib.hid hb
  have CL2 := Lib.hid (CL.out v hb)
  clear hb CL CN C
  obtain ⟨a, b⟩ := nd
  dsimp only
  by_cases hb0 : b = 0
  · subst hb0
    go_wp2_with fail
    refine CL2.out.mono ?_
    rintro x u ⟨rfl, hb⟩
    have HB2 := Lib.hid (below_next HB.out hb)
    clear hb
    by_cases hle : a ≤ 8 * (n : Int) - taken
    · go_wp2
      go_ret
      exact ⟨by simp, HB2.out⟩
    · go_wp2
      go_ret
      exact ⟨by simp, HB2.out⟩
  · have e0 : (b == 0) = false := by simp [hb0]
    go_wp2
    go_ret
    exact ⟨by simp, HB.out⟩
end Go.Proofs.Ytpggomekbahddaa
