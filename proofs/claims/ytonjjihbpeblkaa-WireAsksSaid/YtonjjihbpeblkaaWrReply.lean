/- What package wire's ReplyBytes returns. -/
import Derived.Test.YtonjjihbpeblkaaWrBytes
namespace Go.Proofs.Ytonjjihbpeblkaa
open Go.RowKit
namespace Wr
/-- A reply's bytes. -/
def repBytes (r : Rp) : Option (List Nat) := if r.e ≠ 0 ∧ r ≠ Rp.bare r.e then none else encs r.cells
/-- Numbers that an int may be. -/
def Rp.small (r : Rp) : Prop := r.e < 9223372036854775808 ∧ r.n < 9223372036854775808 ∧ r.q < 9223372036854775808 ∧ r.f < 9223372036854775808 ∧ r.h < 9223372036854775808
end Wr
/-- What is known of a reply's fields. -/
theorem rep_vals {g b : Nat} (r : Wr.Rp) (hr : r.small) {w : World} (h : Holds w b r.cells) (h2 : Holds w g [.int .i64 r.e]) (i : Nat) (f : Wr.Fld) (v : Value) (hf : (Wr.told g b)[i]? = some f) (hv : r.cells[i]? = some v) : (f.1.block = b ∨ f.1.block = g) ∧ w.cell? f.1 = some v ∧ Wr.fits f.2 v := by
  obtain ⟨h1, h3, h4, h5, h6⟩ := hr
  match i, hf, hv with
  | 0, hf, hv => injection hf with hf; injection hv with hv; subst hf hv; exact ⟨.inr rfl, h2.at_ 0 rfl, r.e, rfl, h1⟩
  | 1, hf, hv => injection hf with hf; injection hv with hv; subst hf hv; exact ⟨.inl rfl, h.at_ 1 rfl, r.n, rfl, h3⟩
  | 2, hf, hv => injection hf with hf; injection hv with hv; subst hf hv; exact ⟨.inl rfl, h.at_ 2 rfl, r.q, rfl, h4⟩
  | 3, hf, hv => injection hf with hf; injection hv with hv; subst hf hv; exact ⟨.inl rfl, h.at_ 3 rfl, r.f, rfl, h5⟩
  | 4, hf, hv => injection hf with hf; injection hv with hv; subst hf hv; exact ⟨.inl rfl, h.at_ 4 rfl, r.h, rfl, h6⟩
  | i + 5, hf, _ => cases hf
/-- A block, and a variable behind it, made. -/
theorem one_box (w : World) (xs : List Value) (x : Value) (t t2 : TypeId) : Holds ((w.alloc (.cells xs.toArray t)).alloc (.cells #[x] t2)) w.heap.size xs ∧ Holds ((w.alloc (.cells xs.toArray t)).alloc (.cells #[x] t2)) (w.heap.size + 1) [x] ∧ Below w.heap.size w ((w.alloc (.cells xs.toArray t)).alloc (.cells #[x] t2)) ∧ ((w.alloc (.cells xs.toArray t)).alloc (.cells #[x] t2)).heap.size = w.heap.size + 2 := by
  have k0 := (Holds.new w xs.toArray t).alloc (.cells #[x] t2)
  have k1 := Holds.new (w.alloc (.cells xs.toArray t)) #[x] t2
  rw [show (w.alloc (.cells xs.toArray t)).heap.size = w.heap.size + 1 by simp] at k1
  exact ⟨by simpa using k0, by simpa using k1, ((Below.refl _ _).alloc (Nat.le_refl _) _).alloc (by simp) _, by simp⟩
theorem told_apart (g b : Nat) : (Wr.at_ (Wr.told g b)).Nodup := by
  unfold Wr.at_ Wr.told
  simp
set_option maxRecDepth 100000 in
set_option maxHeartbeats 8000000 in
theorem wrepbytes_any (r : Wr.Rp) (hr : r.small) (w : World) :
    Calls Try.prog 15 #[.agg r.cells.toArray] w (GivesBs w (Wr.repBytes r)) := by
  obtain ⟨x, n, q, f, h⟩ := r
  obtain ⟨k0, k1, hb, hsz⟩ := one_box w [.int .i64 x, .int .i64 n, .int .i64 q, .int .i64 f, .int .i64 h] (.int .i64 x) 36 3
  have hrp := Lib.hid (fun wx => reply_any (w.heap.size + 1) w.heap.size wx)
  have K0 := Lib.hid k0
  have K1 := Lib.hid k1
  have Hb := Lib.hid hb
  have Hsz := Lib.hid hsz
  have Hr := Lib.hid hr
  have hne := ne_Rp ⟨x, n, q, f, h⟩ (Wr.Rp.bare x)
  clear k0 k1 hb hsz hr
  by_cases hbad : x ≠ 0 ∧ (⟨x, n, q, f, h⟩ : Wr.Rp) ≠ Wr.Rp.bare x
  · have E0 := Lib.hid (show Wr.repBytes ⟨x, n, q, f, h⟩ = none by unfold Wr.repBytes; rw [if_pos hbad])
    rw [decide_eq_true hbad.2] at hne
    simp only [Wr.Rp.cells, Wr.Rp.bare] at hne
    have hx0 : ¬ x = 0 := hbad.1
    clear hbad
    have Hb1 : Hid (Below w.heap.size w (w.alloc (.cells #[Value.int .i64 x, .int .i64 n, .int .i64 q, .int .i64 f, .int .i64 h] 36))) := Lib.hid ((Below.refl _ _).alloc (Nat.le_refl _) _)
    show Calls _ _ #[.agg #[.int .i64 x, .int .i64 n, .int .i64 q, .int .i64 f, .int .i64 h]] _ _
    go_enter Try.func15, Try.ntmps15
    go_wp2
    go_ret2
    rw [E0.out]
    exact ⟨rfl, Hb1.out⟩
  · have E0 := Lib.hid (show Wr.repBytes ⟨x, n, q, f, h⟩ = Wr.encs (Wr.Rp.cells ⟨x, n, q, f, h⟩) by unfold Wr.repBytes; rw [if_neg hbad])
    have hgo : x = 0 ∨ (¬ x = 0 ∧ decide ((⟨x, n, q, f, h⟩ : Wr.Rp) ≠ Wr.Rp.bare x) = false) := by
      by_cases h0 : x = 0
      · exact .inl h0
      · exact .inr ⟨h0, decide_eq_false (fun e => hbad ⟨h0, e⟩)⟩
    have hrest : ∀ (w1 : World), Holds w1 w.heap.size [.int .i64 x, .int .i64 n, .int .i64 q, .int .i64 f, .int .i64 h] → Holds w1 (w.heap.size + 1) [.int .i64 x] → Below w.heap.size w w1 → w1.heap.size = w.heap.size + 2 →
        ∀ A c v1, RdV v1 A (Wr.told (w.heap.size + 1) w.heap.size).length ((Wr.told (w.heap.size + 1) w.heap.size).map Wr.anyOf) → Below w1.heap.size w1 v1 → (∀ b o, A = some ⟨b, o, none⟩ → w1.heap.size ≤ b ∧ b < v1.heap.size) →
        Calls Try.prog 27 #[.slice none 0 0, .slice A 5 c] v1 (GivesPuts v1 v1.heap.size [] (Wr.encs (Wr.Rp.cells ⟨x, n, q, f, h⟩))) := fun w1 z0 z1 zb zs A c v1 hA hb1 hAb =>
      wput_any v1.heap.size none 0 0 [] A 5 c (Wr.told (w.heap.size + 1) w.heap.size) (Wr.Rp.cells ⟨x, n, q, f, h⟩) v1 (by omega) rfl rfl (by simp) (Nat.le_refl _) (Own.none_ _ _) hA (fun b o e => (hAb b o e).2) (fun i ff v hf hv => by
        obtain ⟨a1, a2, a3⟩ := rep_vals ⟨x, n, q, f, h⟩ Hr.out (z0.below hb1) (z1.below hb1) i ff v hf hv
        have := hb1.size
        exact ⟨by rcases a1 with a1 | a1 <;> rw [a1] <;> omega, a2, a3⟩)
    have Hrest := Lib.hid hrest
    clear hrest hbad
    show Calls _ _ #[.agg #[.int .i64 x, .int .i64 n, .int .i64 q, .int .i64 f, .int .i64 h]] _ _
    rcases hgo with rfl | ⟨h0, hd⟩
    · clear hne
      go_enter Try.func15, Try.ntmps15
      go_wp2_with fail
      generalize (w.alloc (.cells #[Value.int .i64 0, .int .i64 n, .int .i64 q, .int .i64 f, .int .i64 h] 36)).alloc (.cells #[Value.int .i64 0] 3) = w1 at *
      refine (hrp.out _).mono ?_
      rintro e v1 ⟨A1, c1, rfl, hA1, hb1, hAb1⟩
      have Hput := Lib.hid (Hrest.out w1 K0.out K1.out Hb.out Hsz.out A1 c1 v1 hA1 hb1 hAb1)
      have Hb1 := Lib.hid (Hb.out.trans (hb1.mono (by have := Hsz.out; omega)))
      have hs1 : w.heap.size ≤ v1.heap.size := Hb1.out.size
      clear hA1 hb1 hAb1
      have e5 : (Wr.told (w.heap.size + 1) w.heap.size).length = 5 := rfl
      rw [e5]
      clear e5
      rcases hen : Wr.encs (Wr.Rp.cells ⟨0, n, q, f, h⟩) with _ | rb
      · rw [hen] at Hput E0
        go_wp2_with fail
        refine Hput.out.mono ?_
        rintro e v6 ⟨rfl, hb6⟩
        go_wp2
        go_ret2
        rw [E0.out]
        exact ⟨rfl, Hb1.out.trans (hb6.mono (by omega))⟩
      · rw [hen] at Hput E0
        go_wp2_with fail
        refine Hput.out.mono ?_
        rintro e v6 ⟨B6, c6, rfl, ho6, hb6⟩
        rw [List.nil_append] at ho6 ⊢
        go_wp2
        go_ret2
        rw [E0.out]
        exact ⟨B6, c6, rfl, own_base ho6 (show w.heap.size ≤ v1.heap.size by omega), Hb1.out.trans (hb6.mono (by omega))⟩
    · rw [hd] at hne
      simp only [Wr.Rp.cells, Wr.Rp.bare] at hne
      clear hd
      go_enter Try.func15, Try.ntmps15
      go_wp2_with fail
      generalize (w.alloc (.cells #[Value.int .i64 x, .int .i64 n, .int .i64 q, .int .i64 f, .int .i64 h] 36)).alloc (.cells #[Value.int .i64 x] 3) = w1 at *
      refine (hrp.out _).mono ?_
      rintro e v1 ⟨A1, c1, rfl, hA1, hb1, hAb1⟩
      have Hput := Lib.hid (Hrest.out w1 K0.out K1.out Hb.out Hsz.out A1 c1 v1 hA1 hb1 hAb1)
      have Hb1 := Lib.hid (Hb.out.trans (hb1.mono (by have := Hsz.out; omega)))
      have hs1 : w.heap.size ≤ v1.heap.size := Hb1.out.size
      clear hA1 hb1 hAb1
      have e5 : (Wr.told (w.heap.size + 1) w.heap.size).length = 5 := rfl
      rw [e5]
      clear e5
      rcases hen : Wr.encs (Wr.Rp.cells ⟨x, n, q, f, h⟩) with _ | rb
      · rw [hen] at Hput E0
        go_wp2_with fail
        refine Hput.out.mono ?_
        rintro e v6 ⟨rfl, hb6⟩
        go_wp2
        go_ret2
        rw [E0.out]
        exact ⟨rfl, Hb1.out.trans (hb6.mono (by omega))⟩
      · rw [hen] at Hput E0
        go_wp2_with fail
        refine Hput.out.mono ?_
        rintro e v6 ⟨B6, c6, rfl, ho6, hb6⟩
        rw [List.nil_append] at ho6 ⊢
        go_wp2
        go_ret2
        rw [E0.out]
        exact ⟨B6, c6, rfl, own_base ho6 (show w.heap.size ≤ v1.heap.size by omega), Hb1.out.trans (hb6.mono (by omega))⟩
end Go.Proofs.Ytonjjihbpeblkaa
