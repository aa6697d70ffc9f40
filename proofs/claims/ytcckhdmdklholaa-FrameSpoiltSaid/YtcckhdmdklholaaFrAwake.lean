/- The chapter's example: a frame of one byte is read. -/
import Derived.Test.YtcckhdmdklholaaFrEnc
import Derived.Test.YtcckhdmdklholaaFrDec
import Derived.Test.YtcckhdmdklholaaFrForm
namespace Go.Proofs.Ytcckhdmdklholaa
open Go.RowKit Fr
set_option linter.unusedVariables false
/-- What Encode gives of a stamp, a kind and a payload that may be: read with the length written out. -/
theorem encode_row (f e i k : Nat) (A : Option Addr) (c : Nat) (p : List Nat) (w : World) (hs : okS (f : Int) (e : Int) (i : Int) = true) (hk : okK (k : Int) = true) (hp : Rd w A p.length p) (hn : p.length ≤ 108) :
    Calls Try.prog 10 #[.agg #[.int .i64 (f : Int), .int .i64 (e : Int), .int .i64 (i : Int)], .int .i64 (k : Int), .slice A p.length c] w fun x w' => ∃ (B : Option Addr) (d : Nat), x = .returned (.tuple #[.slice B 128 d, .int .i64 0]) ∧ Rd w' B 128 (frame k f e i p) ∧ 128 ≤ d ∧ Below w.heap.size w w' := by
  have h := encode_ok f e i k A c p w hs hk hp hn
  refine h.mono ?_
  rintro x w' ⟨B, d, rfl, hr, hd, hb⟩
  rw [frame_len hn] at hr hd
  exact ⟨B, d, by rw [frame_len hn], hr, hd, hb⟩
/-- What Decode gives of a frame. -/
theorem decode_row (f e i k : Nat) (A : Option Addr) (c : Nat) (p : List Nat) (w : World) (hs : okS (f : Int) (e : Int) (i : Int) = true) (hk : okK (k : Int) = true) (hpl : ∀ x ∈ p, x < 256) (h : Rd w A 128 (frame k f e i p)) (hc : 128 ≤ c) (hn : p.length ≤ 108) :
    Calls Try.prog 15 #[.slice A 128 c] w (GivesDec w f e i k p 0) := by
  obtain ⟨⟨f1, f2⟩, ⟨e1, e2⟩, i1, i2⟩ := okS_iff.1 hs
  obtain ⟨k1, k2⟩ := okK_iff.1 hk
  have hml : Cr.more 0 (body k f e i p) < 4294967296 := Cr.more_lt (body_lt (by omega) hpl) (by omega)
  have h2 := form2 k f e i (p := p)
  have h4 := form4 k f e i (p := p)
  have h8 := form8 k f e i (p := p)
  have h12 := form12 k f e i (p := p)
  have h124 := form124 k f e i hn
  rw [Nat.mod_eq_of_lt (by rw [show 256 ^ 2 = 65536 by decide]; omega)] at h2
  rw [Nat.mod_eq_of_lt (by rw [show 256 ^ 4 = 4294967296 by decide]; omega)] at h4 h8 h12
  rw [Nat.mod_eq_of_lt (by rw [show 256 ^ 4 = 4294967296 by decide]; exact hml)] at h124
  have := decode_yes A c (frame k f e i p) w h hc (form0 k f e i) (by rw [form1]; exact hk) (by rw [h2]; exact hn) (by rw [h4, h8, h12]; exact hs)
    (by rw [h2, form_zeros]; exact zerosB_iff.2 (fun x hx => List.eq_of_mem_replicate hx)) (by rw [h124, form_body k f e i hn])
  rw [h2, h4, h8, h12, form1, form_payload] at this
  exact this
set_option maxRecDepth 100000 in
set_option maxHeartbeats 1000000 in
theorem awake_any (w : World) : Calls Try.prog 14 #[] w fun e w' => e = .returned (.bool true) ∧ Below w.heap.size w w' := by
  have kc := fun (w : World) (C : Array Value) (n c : Nat) => Lib.run_convert_bytes_const (P := Try.prog) w 24 5 C n c Try.underlying24 Try.underlying5
  have hp : Rd (w.alloc (.cells (bv [120]).toArray 5 (1, 2))) (some ⟨w.heap.size, 0, none⟩) 1 [120] := rd_new w [120] (by decide) (1, 2)
  have henc := encode_row 1 2 3 2 (some ⟨w.heap.size, 0, none⟩) 1 [120] _ (by decide) (by decide) hp (by simp)
  have hB0 : Below w.heap.size w (w.alloc (.cells (bv [120]).toArray 5 (1, 2))) := (Below.refl _ _).alloc (Nat.le_refl _) _
  have HE := Lib.hid henc
  have hdec := fun (A : Option Addr) (c : Nat) (v : World) h hc => decode_row 1 2 3 2 A c [120] v (by decide) (by decide) (by decide) h hc (by simp)
  have HD := Lib.hid hdec
  have hfirst : (frame 2 1 2 3 [120])[0]? = some 76 := rfl
  have HF1 := Lib.hid hfirst
  have hx : str [120] = ⟨#[120]⟩ := by decide +kernel
  have HX := Lib.hid hx
  generalize frame 2 1 2 3 [120] = l at *
  clear henc hdec hp hfirst hx
  go_enter Try.func14, Try.ntmps14
  go_wp2_with fail
  refine HE.out.mono ?_
  rintro x v1 ⟨B, d, rfl, hr, hd, hb1⟩
  have hw1 := hB0.trans (hb1.mono hB0.size)
  go_wp2_with fail
  refine (HD.out B d v1 hr hd).mono ?_
  rintro x v2 ⟨P, c2, rfl, hr2, hb2⟩
  have hw2 := hw1.trans (hb2.mono hw1.size)
  obtain ⟨b, o, hBe, hbb, hcl⟩ := (hr.below hb2).2.2 (by omega)
  subst hBe
  have c0 := hcl 0 76 HF1.out
  rw [Nat.add_zero] at c0
  have hr3 : Rd (v2.alloc (.cells #[.int .i64 1, .int .i64 2, .int .i64 3] 23)) P 1 [120] := hr2.alloc _
  have hcw := run_str (cap := c2) hr3
  rw [HX.out] at hcw
  clear kc hcl hr hr2 hr3 hb1 hb2 hw1
  go_wp2_with fail
  go_ret
  exact ⟨rfl, hw2.alloc hw2.size _⟩
end Go.Proofs.Ytcckhdmdklholaa
