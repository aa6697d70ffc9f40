/- The document's At, Take and Twin. -/
import Derived.Test.YthganbbiclmgpaaMlRef
namespace Go.Proofs.Ythganbbiclmgpaa
open Go.RowKit
set_option maxRecDepth 100000 in
set_option maxHeartbeats 2000000 in
theorem rat_any (A : Option Addr) (cap : Nat) (l : List Ml.M) (i : Int) (w : World) (h : RdM w A l.length l) :
    Calls Try.prog 18 #[.slice A l.length cap, .int .i64 i] w fun e w' => e = .returned (.tuple #[.agg (Ml.cells (Ml.atM l i)).toArray, .int .i64 (Ml.hasE l i)]) ∧ Below w.heap.size w w' := by
  have hb0 : Below w.heap.size w (w.alloc (.cells #[.int .i64 0, .int .i64 0, .string ⟨#[]⟩] 28)) := (Below.refl _ _).alloc (Nat.le_refl _) _
  have H0 := Lib.hid (h.below hb0)
  have HB0 := Lib.hid hb0
  have Hbx := Lib.hid (Holds.new w #[.int .i64 0, .int .i64 0, .string ⟨#[]⟩] 28)
  clear h hb0
  by_cases hi : 0 ≤ i ∧ i < l.length
  · obtain ⟨k, rfl⟩ := Int.eq_ofNat_of_zero_le hi.1
    have hkl : k < l.length := by omega
    have hkli : (k : Int) < (l.length : Int) := by omega
    obtain ⟨x, hx⟩ : ∃ x, l[k]? = some x := ⟨_, List.getElem?_eq_getElem hkl⟩
    have E0 := Lib.hid (show Ml.hasE l (k : Int) = 0 by unfold Ml.hasE; rw [if_pos hi])
    have E1 := Lib.hid (Ml.at_in hx)
    obtain ⟨f, t, s⟩ := x
    obtain ⟨b, o, rfl, hbl, hcell⟩ := H0.out.at_ hx
    clear hx hi
    have e0 : (w.alloc (.cells #[.int .i64 0, .int .i64 0, .string ⟨#[]⟩] 28)).cell? ⟨b, o + k * 3, none⟩ = some (.int .i64 f) := hcell 0 _ rfl
    have e1 : (w.alloc (.cells #[.int .i64 0, .int .i64 0, .string ⟨#[]⟩] 28)).cell? ⟨b, o + k * 3 + 1, none⟩ = some (.int .i64 t) := hcell 1 _ rfl
    have e2 : (w.alloc (.cells #[.int .i64 0, .int .i64 0, .string ⟨#[]⟩] 28)).cell? ⟨b, o + k * 3 + 2, none⟩ = some (.string s) := hcell 2 _ rfl
    clear hcell
    go_enter Try.func18, Try.ntmps18
    go_upto_region 3 with fail
    generalize (w.alloc (.cells #[.int .i64 0, .int .i64 0, .string ⟨#[]⟩] 28)) = w1 at *
    have z0 := Hbx.out.2.2 0
    have z1 := Hbx.out.2.2 1
    have z2 := Hbx.out.2.2 2
    obtain ⟨b0, b1, b2⟩ := results3 Hbx.out
    go_wp2
    obtain ⟨c0, c1, c2⟩ := results3 (Hbx.out.set3 (.int .i64 f) (.int .i64 t) (.string s))
    refine ⟨rfl, .tuple #[.agg #[.int .i64 f, .int .i64 t, .string s], .int .i64 0], ?_, ?_⟩
    · simp [results, Try.results18, go_sem, c0, c1, c2]
    · exact ⟨by rw [E0.out, E1.out]; rfl, below_set3 HB0.out _ _ _ _ (Nat.le_refl _)⟩
  · have E0 := Lib.hid (show Ml.hasE l i = 5 by unfold Ml.hasE; rw [if_neg hi])
    have E1 := Lib.hid (Ml.at_out hi)
    have key : i < 0 ∨ (¬ i < 0 ∧ (l.length : Int) ≤ i) := by omega
    clear hi
    rcases key with k1 | ⟨k1, k2⟩
    all_goals
      go_enter Try.func18, Try.ntmps18
      go_upto_region 2 with fail
      generalize (w.alloc (.cells #[.int .i64 0, .int .i64 0, .string ⟨#[]⟩] 28)) = w1 at *
      have z0 := Hbx.out.2.2 0
      have z1 := Hbx.out.2.2 1
      have z2 := Hbx.out.2.2 2
      obtain ⟨b0, b1, b2⟩ := results3 Hbx.out
      go_wp2
      obtain ⟨c0, c1, c2⟩ := results3 (Hbx.out.set3 (.int .i64 0) (.int .i64 0) (.string ⟨#[]⟩))
      refine ⟨rfl, .tuple #[.agg #[.int .i64 0, .int .i64 0, .string ⟨#[]⟩], .int .i64 5], ?_, ?_⟩
      · simp [results, Try.results18, go_sem, c0, c1, c2]
      · exact ⟨by rw [E0.out, E1.out]; rfl, below_set3 HB0.out _ _ _ _ (Nat.le_refl _)⟩
set_option maxRecDepth 100000 in
set_option maxHeartbeats 4000000 in
theorem rtwin_any (A : Option Addr) (cap : Nat) (l : List Ml.M) (i : Int) (w : World) (h : RdM w A l.length l) (hc : l.length ≤ cap) (hl : l.length ≤ 1000) :
    Calls Try.prog 16 #[.slice A l.length cap, .int .i64 i] w (GivesRef w A cap l (Ml.twinL l i) [.int .i64 (Ml.twinE l i)]) := by
  have HAt := Lib.hid (rat_any A cap l i w h)
  have HR0 := Lib.hid h
  have Hc := Lib.hid hc
  clear h hc
  go_enter Try.func16, Try.ntmps16
  go_wp2_with fail
  refine HAt.out.mono ?_
  rintro e v1 ⟨he, hb1⟩
  obtain ⟨x, hx⟩ : ∃ x, Ml.atM l i = x := ⟨_, rfl⟩
  rw [hx] at he
  have HX := Lib.hid hx
  clear hx
  obtain ⟨f, t, s⟩ := x
  have he : e = .returned (.tuple #[.agg #[.int .i64 f, .int .i64 t, .string s], .int .i64 (Ml.hasE l i)]) := he
  subst he
  have hb2 : Below v1.heap.size v1 (v1.alloc (.cells #[.int .i64 f, .int .i64 t, .string s] 28)) := (Below.refl _ _).alloc (Nat.le_refl _) _
  have HB0 := Lib.hid (below_next hb1 hb2)
  have Hbx := Lib.hid (Holds.new v1 #[.int .i64 f, .int .i64 t, .string s] 28)
  have HR := Lib.hid (HR0.out.below HB0.out)
  clear hb1 hb2
  go_upto_region 2 with fail
  generalize (v1.alloc (.cells #[.int .i64 f, .int .i64 t, .string s] 28)) = w1 at *
  by_cases hi : 0 ≤ i ∧ i < l.length
  · have E0 := Lib.hid (show Ml.hasE l i = 0 by unfold Ml.hasE; rw [if_pos hi])
    rw [E0.out]
    by_cases h256 : 256 ≤ l.length
    · have h256i : (256 : Int) ≤ (l.length : Int) := by omega
      have E2 := Lib.hid (show Ml.twinE l i = 3 by unfold Ml.twinE; rw [if_pos hi, if_pos h256])
      have E3 := Lib.hid (show Ml.twinL l i = l by unfold Ml.twinL; rw [if_pos hi, if_pos h256])
      clear hi
      go_wp2
      refine ⟨rfl, .tuple #[.slice A l.length cap, .int .i64 3], by simp [results, Try.results16, go_sem], ?_⟩
      rw [E2.out, E3.out]
      exact ⟨A, cap, rfl, HR.out, Hc.out, HB0.out, .inl ⟨rfl, rfl, rfl⟩⟩
    · have h256i : ¬ (256 : Int) ≤ (l.length : Int) := by omega
      have E2 := Lib.hid (show Ml.twinE l i = 0 by unfold Ml.twinE; rw [if_pos hi, if_neg h256])
      have E3 := Lib.hid (show Ml.twinL l i = l ++ [⟨f, t, s⟩] by unfold Ml.twinL; rw [if_pos hi, if_neg h256, HX.out])
      have HE := Lib.hid (And.intro E2.out E3.out)
      clear hi
      go_upto_region 6 with fail
      have eA : (w1.alloc (.cells #[] 28)).heap.size = w1.heap.size + 1 := by simp
      have eX : (w1.alloc (.cells #[.int .i64 f, .int .i64 t, .string s] 28)).heap.size = w1.heap.size + 1 := by simp
      have BL1 := (((Below.refl w1.heap.size w1).alloc (Nat.le_refl _) (.cells #[] 28))).drew
      have BL2 := (((Below.refl w1.heap.size w1).alloc (Nat.le_refl _) (.cells #[] 28)).alloc (by omega) (.cells #[.int .i64 f, .int .i64 t, .string s] 28)).drew
      have BL3 := (((Below.refl w1.heap.size w1).alloc (Nat.le_refl _) (.cells #[.int .i64 f, .int .i64 t, .string s] 28)).alloc (by omega) (.cells #[] 28)).drew
      have OC1 : OwnC 3 (w1.alloc (.cells #[] 28)).drew w1.heap.size 28 (some ⟨w1.heap.size, 0, none⟩) 0 0 [] := OwnC.empty 3 w1 _ _ (Nat.le_refl _)
      have OC2 : OwnC 3 ((w1.alloc (.cells #[] 28)).alloc (.cells #[.int .i64 f, .int .i64 t, .string s] 28)).drew w1.heap.size 28 (some ⟨w1.heap.size, 0, none⟩) 0 0 [] := OwnC.alloc OC1 _
      have OC3 : OwnC 3 ((w1.alloc (.cells #[.int .i64 f, .int .i64 t, .string s] 28)).alloc (.cells #[] 28)).drew w1.heap.size 28 (some ⟨w1.heap.size + 1, 0, none⟩) 0 0 [] := by
        have h := OwnC.empty 3 (w1.alloc (.cells #[.int .i64 f, .int .i64 t, .string s] 28)) 28 w1.heap.size (by omega)
        rw [eX] at h
        exact h
      have RL1 := HR.out.2.below BL1
      have RL2 := HR.out.2.below BL2
      have RL3 := HR.out.2.below BL3
      have XR2 : RdC 3 ((w1.alloc (.cells #[] 28)).alloc (.cells #[.int .i64 f, .int .i64 t, .string s] 28)).drew (some ⟨w1.heap.size + 1, 0, none⟩) 1 (Ml.cells ⟨f, t, s⟩) := by
        have h := rdc_new 3 (w1.alloc (.cells #[] 28)) 28 (Ml.cells ⟨f, t, s⟩) 1 rfl (0, 0)
        rw [eA] at h
        exact h
      have XR3 : RdC 3 ((w1.alloc (.cells #[.int .i64 f, .int .i64 t, .string s] 28)).alloc (.cells #[] 28)).drew (some ⟨w1.heap.size, 0, none⟩) 1 (Ml.cells ⟨f, t, s⟩) := by
        have h := (rdc_new 3 w1 28 (Ml.cells ⟨f, t, s⟩) 1 rfl (0, 0)).below ((Below.refl _ _).alloc (Nat.le_refl _) (.cells #[] 28))
        exact h
      obtain ⟨d0, d1, d2⟩ := results3 (Hbx.out.below (Below.refl w1.heap.size w1).drew)
      obtain ⟨a0, a1, a2⟩ := results3 (Hbx.out.below BL1)
      have hl1 : 0 + l.length ≤ 1000000 := by omega
      have hl2 : l.length + 1 ≤ 1000000 := by omega
      have hq1 : w1.heap.size ≠ w1.heap.size + 1 := by omega
      have hq2 : w1.heap.size + 1 ≠ w1.heap.size := by omega
      have hle : w1.heap.size ≤ w1.heap.size + 1 := by omega
      clear eA eX
      go_region_law ((first
        | (refine step_appN manyM (by rfl) 24 rfl (.tmp 22) (.tmp 23) rfl rfl OC1 A l.length cap (Ml.flat l) (Ml.flat_one l) rfl RL1 hl1 BL1.size ?_; intro A3 c3 v3 hg3; obtain ⟨T1, T2, T3⟩ := first_app BL1 (Nat.le_refl _) hg3; obtain ⟨y0, y1, y2⟩ := results3 (Hbx.out.below T1); have O4 := T2.alloc (.cells #[.int .i64 f, .int .i64 t, .string s] 28); have X4 := rdc_new 3 v3 28 (Ml.cells ⟨f, t, s⟩) 1 rfl (0, 0); have S4 := T1.alloc T1.size (.cells #[.int .i64 f, .int .i64 t, .string s] 28); clear hg3)
        | (refine step_appN manyM (by rfl) 24 rfl (.tmp 22) (.tmp 23) rfl rfl OC2 A l.length cap (Ml.flat l) (Ml.flat_one l) rfl RL2 hl1 BL2.size ?_; intro A3 c3 v3 hg3; obtain ⟨T1, T2, T3⟩ := first_app BL2 (Nat.le_refl _) hg3; have X5 := side_row XR2 hq1 hg3; clear hg3)
        | (refine step_appN manyM (by rfl) 24 rfl (.tmp 22) (.tmp 23) rfl rfl OC3 A l.length cap (Ml.flat l) (Ml.flat_one l) rfl RL3 hl1 BL3.size ?_; intro A3 c3 v3 hg3; obtain ⟨T1, T2, T3⟩ := first_app BL3 hle hg3; have X5 := side_row XR3 hq2 hg3; clear hg3)
        | (refine step_appN manyM (by rfl) 27 rfl (.tmp 24) (.tmp 26) rfl rfl O4 (some ⟨v3.heap.size, 0, none⟩) 1 1 (Ml.cells ⟨f, t, s⟩) (Ml.cells_one _) rfl X4 hl2 S4.size ?_; intro A5 c5 v5 hg5; have HF := Lib.hid (next_app S4 O4 hg5); clear hg5)
        | (refine step_appN manyM (by rfl) 27 rfl (.tmp 24) (.tmp 26) rfl rfl T2 (some ⟨w1.heap.size + 1, 0, none⟩) 1 1 (Ml.cells ⟨f, t, s⟩) (Ml.cells_one _) rfl X5 hl2 T1.size ?_; intro A5 c5 v5 hg5; have HF := Lib.hid (next_app T1 T2 hg5); clear hg5)
        | (refine step_appN manyM (by rfl) 27 rfl (.tmp 24) (.tmp 26) rfl rfl T2 (some ⟨w1.heap.size, 0, none⟩) 1 1 (Ml.cells ⟨f, t, s⟩) (Ml.cells_one _) rfl X5 hl2 T1.size ?_; intro A5 c5 v5 hg5; have HF := Lib.hid (next_app T1 T2 hg5); clear hg5)))
      all_goals
        go_wp2
        refine ⟨rfl, .tuple #[.slice A5 (l.length + 1) c5, .int .i64 0], by simp [results, Try.results16, go_sem], ?_⟩
        rw [HE.out.1, HE.out.2]
        exact ref_done HB0.out HF.out.1 HF.out.2
  · have E0 := Lib.hid (show Ml.hasE l i = 5 by unfold Ml.hasE; rw [if_neg hi])
    have E2 := Lib.hid (show Ml.twinE l i = 5 by unfold Ml.twinE; rw [if_neg hi])
    have E3 := Lib.hid (show Ml.twinL l i = l by unfold Ml.twinL; rw [if_neg hi])
    rw [E0.out]
    clear hi
    go_wp2
    refine ⟨rfl, .tuple #[.slice A l.length cap, .int .i64 5], by simp [results, Try.results16, go_sem], ?_⟩
    rw [E2.out, E3.out]
    exact ⟨A, cap, rfl, HR.out, Hc.out, HB0.out, .inl ⟨rfl, rfl, rfl⟩⟩
theorem RdC.takeN {s : Nat} {w : World} {A : Option Addr} {n : Nat} {vs : List Value} (h : RdC s w A n vs) {k : Nat} (hk : k ≤ n) : RdC s w A k (vs.take (k * s)) := by
  have hks : k * s ≤ n * s := Nat.mul_le_mul_right s hk
  refine ⟨by rw [List.length_take, h.1, Nat.min_eq_left hks], fun hn => ?_⟩
  obtain ⟨b, o, rfl, hb, hc⟩ := h.2 (by omega)
  refine ⟨b, o, rfl, hb, fun j x hx => ?_⟩
  rw [List.getElem?_take] at hx
  split at hx
  · exact hc j x hx
  · cases hx
theorem OwnC.aside {s : Nat} {w : World} {base n cap : Nat} {A : Option Addr} {vs : List Value} {E : TypeId} (h : OwnC s w base E A n cap vs) (b i : Nat) (v : Value) (hb : b < base) : OwnC s (w.setCell ⟨b, i, none⟩ v) base E A n cap vs :=
  h.grown (grown_setCell w ⟨b, i, none⟩ v) (.inr fun g e e2 => by
    injection e with e
    have e : b = g := e
    have := (h.blk g e2).1
    omega)
/-- A list of mails in fresh memory, or the one that was there; and the mail. -/
def GivesTook (w : World) (A : Option Addr) (cap : Nat) (l l' : List Ml.M) (x : Ml.M) (n : Int) (e : Ending) (w' : World) : Prop :=
  ∃ A' cap', e = .returned (.tuple #[.slice A' l'.length cap', .agg (Ml.cells x).toArray, .int .i64 n]) ∧ RdM w' A' l'.length l' ∧ l'.length ≤ cap' ∧ Below w.heap.size w w' ∧ ((A' = A ∧ cap' = cap ∧ l' = l) ∨ ∀ b o, A' = some ⟨b, o, none⟩ → w.heap.size ≤ b)
theorem took_done {w w1 v5 : World} {A A5 : Option Addr} {cap c5 k : Nat} {l : List Ml.M} {x y z : Value} {m : Ml.M} {n : Int} (h0 : Below w.heap.size w w1) (hs : w.heap.size < w1.heap.size) (hb : Below w1.heap.size w1 v5) (hk : k = (l.length)) (ho : OwnC 3 v5 w1.heap.size 28 A5 k c5 (Ml.flat l)) {l0 : List Ml.M} :
    GivesTook w A cap l0 l m n (.returned (.tuple #[.slice A5 k c5, .agg (Ml.cells m).toArray, .int .i64 n])) (((v5.setCell ⟨w.heap.size, 0, none⟩ x).setCell ⟨w.heap.size, 1, none⟩ y).setCell ⟨w.heap.size, 2, none⟩ z) := by
  subst hk
  refine ⟨A5, c5, rfl, ⟨rfl, (((ho.aside _ 0 x hs).aside _ 1 y hs).aside _ 2 z hs).rd⟩, ho.fits, below_set3 (below_next h0 hb) _ _ _ _ (Nat.le_refl _), .inr fun b o e => ?_⟩
  subst e
  rcases ho.2 with ⟨hv, _⟩ | ⟨g, c, cur, hv, hbg, _⟩
  · cases hv
  · injection hv with e1
    injection e1 with e1
    injection e1 with e1
    omega
set_option maxRecDepth 100000 in
set_option maxHeartbeats 4000000 in
theorem rtake_any (A : Option Addr) (cap : Nat) (l : List Ml.M) (i : Int) (w : World) (h : RdM w A l.length l) (hc : l.length ≤ cap) (hl : l.length ≤ 1000) :
    Calls Try.prog 13 #[.slice A l.length cap, .int .i64 i] w (GivesTook w A cap l (Ml.takeL l i) (Ml.atM l i) (Ml.hasE l i)) := by
  have hb0 : Below w.heap.size w (w.alloc (.cells #[.int .i64 0, .int .i64 0, .string ⟨#[]⟩] 28)) := (Below.refl _ _).alloc (Nat.le_refl _) _
  have HAt := Lib.hid (rat_any A cap l i _ (h.below hb0))
  have HZ0 := Lib.hid (Holds.new w #[.int .i64 0, .int .i64 0, .string ⟨#[]⟩] 28)
  have HR0 := Lib.hid (h.below hb0)
  have HRw := Lib.hid h
  have HBa := Lib.hid hb0
  have Hc := Lib.hid hc
  clear h hc hb0
  go_enter Try.func13, Try.ntmps13
  go_wp2_with fail
  generalize (w.alloc (.cells #[.int .i64 0, .int .i64 0, .string ⟨#[]⟩] 28)) = w0 at *
  refine HAt.out.mono ?_
  rintro e v1 ⟨he, hb1⟩
  obtain ⟨x, hx⟩ : ∃ x, Ml.atM l i = x := ⟨_, rfl⟩
  rw [hx] at he
  rw [hx]
  have HX := Lib.hid hx
  clear hx
  obtain ⟨f, t, s⟩ := x
  have he : e = .returned (.tuple #[.agg #[.int .i64 f, .int .i64 t, .string s], .int .i64 (Ml.hasE l i)]) := he
  subst he
  have hb2 : Below v1.heap.size v1 (v1.alloc (.cells #[.int .i64 f, .int .i64 t, .string s] 28)) := (Below.refl _ _).alloc (Nat.le_refl _) _
  have HB2 := Lib.hid (below_next hb1 hb2)
  have HB0 := Lib.hid (below_next HBa.out (below_next hb1 hb2))
  have Hbx := Lib.hid (Holds.new v1 #[.int .i64 f, .int .i64 t, .string s] 28)
  have HR := Lib.hid (HR0.out.below HB2.out)
  have HZ := Lib.hid (HZ0.out.below HB2.out)
  have hs1 := hb1.size
  have hs0 := HZ0.out.1
  have Hw : Hid (w.heap.size < v1.heap.size) := Lib.hid (by omega)
  clear hb1 hb2 HR0 HZ0 HBa HAt hs1 hs0
  go_upto_region 2 with fail
  generalize (v1.alloc (.cells #[.int .i64 f, .int .i64 t, .string s] 28)) = w1 at *
  by_cases hi : 0 ≤ i ∧ i < l.length
  · have E0 := Lib.hid (show Ml.hasE l i = 0 by unfold Ml.hasE; rw [if_pos hi])
    rw [E0.out]
    obtain ⟨k, rfl⟩ := Int.eq_ofNat_of_zero_le hi.1
    have hkl : k < l.length := by omega
    have hkl' : k ≤ l.length := by omega
    have HC1 := Lib.hid (show k + (l.length - (k + 1)) = (Ml.cut l k).length by rw [Ml.cut_length hkl]; omega)
    have HC2 := Lib.hid (show Ml.flat (l.take k) ++ Ml.flat (l.drop (k + 1)) = Ml.flat (Ml.cut l k) by unfold Ml.cut; rw [Ml.flat_append])
    have hkc : k ≤ cap := by have := Hc.out; omega
    have hkli : (k : Int) ≤ (l.length : Int) := by omega
    have E3 := Lib.hid (show Ml.takeL l (k : Int) = Ml.cut l k by unfold Ml.takeL; rw [if_pos hi, Int.toNat_natCast])
    obtain ⟨j, hj⟩ : ∃ j : Nat, j = k + 1 := ⟨_, rfl⟩
    have Hj := Lib.hid hj
    have hjl : j ≤ l.length := by omega
    have hjli : (j : Int) ≤ (l.length : Int) := by omega
    have hjc : j ≤ cap := by have := Hc.out; omega
    have hwr : IntKind.i64.wrap ((k : Int) + 1) = (j : Int) := by rw [IntKind.wrap_i64]; omega
    have hlc := Hc.out
    obtain ⟨b, o, hA, hbl, _⟩ := HR.out.2.2 (by omega)
    subst hA
    rw [← hj] at HC1 HC2
    have Hs1 : Hid (w.heap.size < w1.heap.size) := Lib.hid (by have h1 := Hw.out; have h2 := Hbx.out.1; omega)
    clear hj hi
    obtain ⟨a0, a1, a2⟩ := results3 Hbx.out
    have BL1 := (((Below.refl w1.heap.size w1).alloc (Nat.le_refl _) (.cells #[] 28))).drew
    have OC1 : OwnC 3 (w1.alloc (.cells #[] 28)).drew w1.heap.size 28 (some ⟨w1.heap.size, 0, none⟩) 0 0 [] := OwnC.empty 3 w1 _ _ (Nat.le_refl _)
    have RL1 : RdC 3 (w1.alloc (.cells #[] 28)).drew (some ⟨b, o, none⟩) k (Ml.flat (l.take k)) := by
      have h := (HR.out.2.below BL1).takeN hkl'
      rw [Ml.flat_take] at h
      exact h
    obtain ⟨p0, p1, p2⟩ := results3 (Hbx.out.below BL1)
    have hl1 : 0 + k ≤ 1000000 := by omega
    have hl2 : k + (l.length - j) ≤ 1000000 := by omega
    by_cases hcj : j = cap
    · subst hcj
      have hll : l.length - j = 0 := by omega
      have HC3 : Hid (k + 0 = (Ml.cut l k).length) := Lib.hid (by rw [← hll]; exact HC1.out)
      have HC4 : Hid (Ml.flat (l.take k) ++ [] = Ml.flat (Ml.cut l k)) := Lib.hid (by have h := HC2.out; rw [List.drop_of_length_le (show l.length ≤ j by omega)] at h; exact h)
      have hl3 : k + 0 ≤ 1000000 := by omega
      clear hl2 HC1 HC2
      go_upto_region 4 with fail
      go_region_law ((first
        | (refine step_appN manyM (by rfl) 24 rfl (.tmp 20) (.tmp 23) rfl rfl OC1 (some ⟨b, o, none⟩) k j (Ml.flat (l.take k)) (Ml.flat_one _) rfl RL1 hl1 BL1.size ?_; intro A3 c3 v3 hg3; obtain ⟨T1, T2, T3⟩ := first_app BL1 (Nat.le_refl _) hg3; obtain ⟨y0, y1, y2⟩ := results3 (Hbx.out.below T1); have R2 : RdC 3 v3 (some ⟨b, o, none⟩) 0 [] := RdC.nil 3 _ _; clear hg3)
        | (refine step_appN manyM (by rfl) 29 rfl (.tmp 24) (.tmp 28) rfl rfl T2 (some ⟨b, o, none⟩) 0 0 [] (by simp) rfl R2 hl3 T1.size ?_; intro A5 c5 v5 hg5; obtain ⟨F1, F2⟩ := next_app T1 T2 hg5; have HF := Lib.hid (And.intro F1 F2); obtain ⟨q0, q1, q2⟩ := results3 (Hbx.out.below F1); obtain ⟨x0, x1, x2⟩ := results3 (HZ.out.below F1); have z0 := (HZ.out.below F1).2.2 0; have z1 := (HZ.out.below F1).2.2 1; have z2 := (HZ.out.below F1).2.2 2; clear hg5 F1 F2)))
      all_goals
        go_wp2
        obtain ⟨c0, c1, c2⟩ := results3 ((HZ.out.below HF.out.1).set3 (.int .i64 f) (.int .i64 t) (.string s))
        refine ⟨rfl, .tuple #[.slice A5 (k + 0) c5, .agg #[.int .i64 f, .int .i64 t, .string s], .int .i64 0], ?_, ?_⟩
        · simp [results, Try.results13, go_sem, c0, c1, c2]
        · have ho := HF.out.2
          rw [HC4.out] at ho
          rw [E3.out, E0.out, HX.out]
          exact took_done HB0.out Hs1.out HF.out.1 HC3.out ho
    · have hcj2 : ¬ cap - j = 0 := by omega
      have hcj3 : ¬ cap = j := fun e => hcj e.symm
      go_upto_region 4 with fail
      go_region_law ((first
        | (refine step_appN manyM (by rfl) 24 rfl (.tmp 20) (.tmp 23) rfl rfl OC1 (some ⟨b, o, none⟩) k cap (Ml.flat (l.take k)) (Ml.flat_one _) rfl RL1 hl1 BL1.size ?_; intro A3 c3 v3 hg3; obtain ⟨T1, T2, T3⟩ := first_app BL1 (Nat.le_refl _) hg3; obtain ⟨y0, y1, y2⟩ := results3 (Hbx.out.below T1); have R2 : RdC 3 v3 (some ⟨b, o + j * 3, none⟩) (l.length - j) (Ml.flat (l.drop j)) := (by rw [← Ml.flat_drop]; exact (HR.out.2.below T1).drop hjl); clear hg3)
        | (refine step_appN manyM (by rfl) 29 rfl (.tmp 24) (.tmp 28) rfl rfl T2 (some ⟨b, o + j * 3, none⟩) (l.length - j) (cap - j) (Ml.flat (l.drop j)) (Ml.flat_one _) rfl R2 hl2 T1.size ?_; intro A5 c5 v5 hg5; obtain ⟨F1, F2⟩ := next_app T1 T2 hg5; have HF := Lib.hid (And.intro F1 F2); obtain ⟨q0, q1, q2⟩ := results3 (Hbx.out.below F1); obtain ⟨x0, x1, x2⟩ := results3 (HZ.out.below F1); have z0 := (HZ.out.below F1).2.2 0; have z1 := (HZ.out.below F1).2.2 1; have z2 := (HZ.out.below F1).2.2 2; clear hg5 F1 F2)))
      all_goals
        go_wp2
        obtain ⟨c0, c1, c2⟩ := results3 ((HZ.out.below HF.out.1).set3 (.int .i64 f) (.int .i64 t) (.string s))
        refine ⟨rfl, .tuple #[.slice A5 (k + (l.length - j)) c5, .agg #[.int .i64 f, .int .i64 t, .string s], .int .i64 0], ?_, ?_⟩
        · simp [results, Try.results13, go_sem, c0, c1, c2]
        · have ho := HF.out.2
          rw [HC2.out] at ho
          rw [E3.out, E0.out, HX.out]
          exact took_done HB0.out Hs1.out HF.out.1 HC1.out ho
  · have E0 := Lib.hid (show Ml.hasE l i = 5 by unfold Ml.hasE; rw [if_neg hi])
    have E3 := Lib.hid (show Ml.takeL l i = l by unfold Ml.takeL; rw [if_neg hi])
    rw [E0.out]
    clear hi
    obtain ⟨a0, a1, a2⟩ := results3 Hbx.out
    have z0 := HZ.out.2.2 0
    have z1 := HZ.out.2.2 1
    have z2 := HZ.out.2.2 2
    obtain ⟨b0, b1, b2⟩ := results3 HZ.out
    go_upto_region 3 with fail
    go_region
    all_goals
      go_wp2
      obtain ⟨c0, c1, c2⟩ := results3 (HZ.out.set3 (.int .i64 f) (.int .i64 t) (.string s))
      refine ⟨rfl, .tuple #[.slice A l.length cap, .agg #[.int .i64 f, .int .i64 t, .string s], .int .i64 5], ?_, ?_⟩
      · simp [results, Try.results13, go_sem, c0, c1, c2]
      · rw [E3.out, E0.out, HX.out]
        exact ⟨A, cap, rfl, HRw.out.below (below_set3 HB0.out _ _ _ _ (Nat.le_refl _)).drew, Hc.out, (below_set3 HB0.out _ _ _ _ (Nat.le_refl _)).drew, .inl ⟨rfl, rfl, rfl⟩⟩
end Go.Proofs.Ythganbbiclmgpaa
