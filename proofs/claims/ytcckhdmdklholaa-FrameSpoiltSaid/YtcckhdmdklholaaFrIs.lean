/- Is of a frame. -/
import Derived.Test.YtcckhdmdklholaaFrAwake
namespace Go.Proofs.Ytcckhdmdklholaa
open Go.RowKit Fr
set_option linter.unusedVariables false
theorem open_row (f e i k : Nat) (A : Option Addr) (c : Nat) (p : List Nat) (w : World) (hs : okS (f : Int) (e : Int) (i : Int) = true) (hk : okK (k : Int) = true) (hpl : ∀ x ∈ p, x < 256) (h : Rd w A 128 (frame k f e i p)) (hc : 128 ≤ c) (hn : p.length ≤ 108) :
    Calls Try.prog 24 #[.slice A 128 c] w (GivesOpen w f e i k p.length true) := by
  obtain ⟨⟨f1, f2⟩, ⟨e1, e2⟩, i1, i2⟩ := okS_iff.1 hs
  obtain ⟨k1, k2⟩ := okK_iff.1 hk
  have hml : Cr.more 0 (body k f e i p) < 4294967296 := Cr.more_lt (body_lt (by omega) hpl) (by omega)
  have h2 := form2 k f e i (p := p)
  have h4 := form4 k f e i (p := p)
  have h8 := form8 k f e i (p := p)
  have h12 := form12 k f e i (p := p)
  have h124 := form124 k f e i hn
  rw [Nat.mod_eq_of_lt (by rw [show 256 ^ 2 = 65536 by decide]; omega)] at h2
  rw [Nat.mod_eq_of_lt (by rw [show 256 ^ 4 = 4294967296 by decide]; omega)] at h4 h8 h12
  rw [Nat.mod_eq_of_lt (by rw [show 256 ^ 4 = 4294967296 by decide]; exact hml)] at h124
  have := open_yes A c (frame k f e i p) w h hc (form0 k f e i) (by rw [form1]; exact hk) (by rw [h2]; exact hn) (by rw [h4, h8, h12]; exact hs)
    (by rw [h2, form_zeros]; exact zerosB_iff.2 (fun x hx => List.eq_of_mem_replicate hx)) (by rw [h124, form_body k f e i hn])
  rw [h2, h4, h8, h12, form1] at this
  exact this
set_option maxRecDepth 100000 in
set_option maxHeartbeats 4000000 in
theorem is_row (f e i k : Nat) (z : Int) (A : Option Addr) (c : Nat) (p : List Nat) (w : World) (hs : okS (f : Int) (e : Int) (i : Int) = true) (hk : okK (k : Int) = true) (hpl : ∀ x ∈ p, x < 256) (h : Rd w A 128 (frame k f e i p)) (hc : 128 ≤ c) (hn : p.length ≤ 108) (hz : z ≤ (e : Int)) :
    Calls Try.prog 17 #[.slice A 128 c, .agg #[.int .i64 (f : Int), .int .i64 z, .int .i64 (i : Int)], .int .i64 (k : Int)] w fun x w' => x = .returned (.bool true) ∧ Below w.heap.size w w' := by
  have hop := fun (v : World) (hv : Below w.heap.size w v) => open_row f e i k A c p v hs hk hpl (h.below hv) hc hn
  unfold GivesOpen at hop
  have HO := Lib.hid hop
  clear hop hs hk hpl h hn
  generalize p.length = n at *
  have hz' : ¬ (e : Int) < z := by omega
  have hB0 : Below w.heap.size w (w.alloc (.cells #[.int .i64 (f : Int), .int .i64 z, .int .i64 (i : Int)] 23)) := (Below.refl _ _).alloc (Nat.le_refl _) _
  have k0 := Holds.new w #[.int .i64 (f : Int), .int .i64 z, .int .i64 (i : Int)] 23
  go_enter Try.func17, Try.ntmps17
  go_wp2_with fail
  refine (HO.out _ hB0).mono ?_
  rintro x v1 ⟨rfl, hb1⟩
  have k1 := k0.below hb1
  have hx1 := below_next hB0 hb1
  have hlt := k1.1
  have k2 := (k1.alloc (.cells #[.int .i64 0, .int .i64 0, .int .i64 0] 23))
  have c0 := k1.at_ 0 rfl
  have c1 := k1.at_ 1 rfl
  have c2 := k1.at_ 2 rfl
  clear k0 k2 hb1
  go_upto_region 2 with fail
  go_wp2_with fail
  go_ret
  exact ⟨rfl, hx1.alloc hx1.size _⟩
/-- Encode gives nothing, or a frame. -/
theorem enc_cases (f e i k : Int) (A : Option Addr) (c : Nat) (p : List Nat) (hbig : p.length ≤ 9223372036854775807) :
    (∃ r : Int, ¬ r = 0 ∧ ∀ W, Rd W A p.length p → Calls Try.prog 10 #[.agg #[.int .i64 f, .int .i64 e, .int .i64 i], .int .i64 k, .slice A p.length c] W (GivesEnc W [] r)) ∨
      (∃ f' e' i' k' : Nat, f = f' ∧ e = e' ∧ i = i' ∧ k = k' ∧ okS (f' : Int) (e' : Int) (i' : Int) = true ∧ okK (k' : Int) = true ∧ p.length ≤ 108) := by
  by_cases h : okS f e i = true ∧ okK k = true
  · by_cases hn : 108 < p.length
    · exact .inl ⟨2, by decide, fun W _ => encode_long f e i k A p.length c W h.1 h.2 hn hbig⟩
    · obtain ⟨hs, hk⟩ := h
      obtain ⟨⟨f1, f2⟩, ⟨e1, e2⟩, i1, i2⟩ := okS_iff.1 hs
      obtain ⟨k1, k2⟩ := okK_iff.1 hk
      obtain ⟨f', rfl⟩ := Int.eq_ofNat_of_zero_le f1
      obtain ⟨e', rfl⟩ := Int.eq_ofNat_of_zero_le e1
      obtain ⟨i', rfl⟩ := Int.eq_ofNat_of_zero_le i1
      obtain ⟨k', rfl⟩ := Int.eq_ofNat_of_zero_le (show 0 ≤ k by omega)
      exact .inr ⟨f', e', i', k', rfl, rfl, rfl, rfl, hs, hk, by omega⟩
  · exact .inl ⟨1, by decide, fun W _ => encode_arg f e i k A p.length c W h⟩
end Go.Proofs.Ytcckhdmdklholaa
