/- The document's Offer where it may be. -/
import Derived.Test.YthganbbiclmgpaaPrROff
namespace Go.Proofs.Ythganbbiclmgpaa
open Go.RowKit
theorem first_app6 {w1 wx v3 : World} {B n c3 : Nat} {A3 : Option Addr} {vs : List Value} (hb : Below w1.heap.size w1 wx) (hs : w1.heap.size ≤ B) (hg : GrewC 6 wx v3 w1.heap.size 89 (some ⟨B, 0, none⟩) A3 0 0 (0 + n) c3 ([] ++ vs)) :
    Below w1.heap.size w1 v3 ∧ OwnC 6 v3 w1.heap.size 89 A3 n c3 vs ∧ wx.heap.size ≤ v3.heap.size := by
  have h := hg.own
  rw [List.nil_append, Nat.zero_add] at h
  exact ⟨hb.grown hg.grew hb.size (fun g e => by injection e with e; have e : B = g := e; omega), h, hg.grew.size⟩
theorem next_app6 {w1 wx v5 : World} {n c4 c5 m : Nat} {A4 A5 : Option Addr} {vs us : List Value} (hb : Below w1.heap.size w1 wx) (ho : OwnC 6 wx w1.heap.size 89 A4 n c4 vs) (hg : GrewC 6 wx v5 w1.heap.size 89 A4 A5 n c4 (n + m) c5 (vs ++ us)) :
    Below w1.heap.size w1 v5 ∧ OwnC 6 v5 w1.heap.size 89 A5 (n + m) c5 (vs ++ us) :=
  ⟨hb.grown hg.grew hb.size (fun g e => (ho.blk g e).1), hg.own⟩
theorem side_row6 {wx v3 : World} {B q : Nat} {A3 : Option Addr} {n c3 : Nat} {vs us : List Value} {base : Nat} (hr : RdC 6 wx (some ⟨q, 0, none⟩) 1 us) (hne : B ≠ q) (hg : GrewC 6 wx v3 base 89 (some ⟨B, 0, none⟩) A3 0 0 n c3 vs) : RdC 6 v3 (some ⟨q, 0, none⟩) 1 us :=
  hr.grown hg.grew (fun _ g o e h => by
    injection e with e
    injection e with e
    injection h with h
    have h : B = g := h
    omega)
/-- A row of what was sent, in memory of its own. -/
def FreshO (w : World) (A : Option Addr) (n cap : Nat) (l : List Pr.Out) (w' : World) : Prop := l.length = n ∧ RdO w' A n l ∧ n ≤ cap ∧ (∀ b o, A = some ⟨b, o, none⟩ → w.heap.size ≤ b)
theorem FreshO.below {w w' w'' : World} {A : Option Addr} {n cap : Nat} {l : List Pr.Out} (h : FreshO w A n cap l w') (hb : Below w'.heap.size w' w'') : FreshO w A n cap l w'' := ⟨h.1, h.2.1.below hb, h.2.2⟩
theorem fresh_of {w w1 v : World} {n cap : Nat} {A : Option Addr} {l : List Pr.Out} {vs : List Value} (h1 : w.heap.size ≤ w1.heap.size) (ho : OwnC 6 v w1.heap.size 89 A n cap vs) (hv : vs = Pr.flatO l) (hn : n = l.length) (hpos : 0 < n) : FreshO w A n cap l v := by
  subst hv
  refine ⟨hn.symm, ⟨hn.symm, ho.rd⟩, ho.fits, fun b o e => ?_⟩
  obtain ⟨g, h2, h3, _⟩ := ho.form hpos
  rw [h2] at e
  injection e with e
  injection e with e
  omega
theorem off_row {w w1 v5 : World} {A5 : Option Addr} {c5 P : Nat} {l : List Pr.Out} {m : Pr.Mg} {vs : List Value} (hs : w.heap.size ≤ w1.heap.size) (hP : P < w1.heap.size) (hv : vs = Pr.flatO l) (ho : OwnC 6 v5 w1.heap.size 89 A5 (l.length + 1) c5 (vs ++ Pr.Out.cells ⟨m, false⟩)) : FreshO w A5 (l.length + 1) c5 (l ++ [⟨m, false⟩]) (v5.setCell ⟨P, 1, none⟩ (.slice A5 (l.length + 1) c5)) :=
  fresh_of hs (ho.aside P 1 _ hP) (by rw [hv, Pr.flatO_append]; simp [Pr.flatO]) (by simp) (by omega)
/-- The boxes behind the row's store. -/
theorem off_boxes {w w3 v5 : World} {Q : Nat} {who : Int} {z : Value} {y y' : Value} {ms zs rs : List Value} (hp : Holds w3 w.heap.size [.int .i64 who, y, z]) (hr : Holds w3 (w.heap.size + 1) rs) (hm : Holds w3 (w.heap.size + 1 + 1) zs) (hq : Holds w3 Q ms) (hb : Below w.heap.size w w3) (hb5 : Below w3.heap.size w3 v5) (hne : w.heap.size + 1 + 1 < Q) :
    Holds (v5.setCell ⟨w.heap.size, 1, none⟩ y') w.heap.size [.int .i64 who, y', z] ∧ Holds (v5.setCell ⟨w.heap.size, 1, none⟩ y') (w.heap.size + 1) rs ∧ Holds (v5.setCell ⟨w.heap.size, 1, none⟩ y') (w.heap.size + 1 + 1) zs ∧ Holds (v5.setCell ⟨w.heap.size, 1, none⟩ y') Q ms ∧ Below w.heap.size w (v5.setCell ⟨w.heap.size, 1, none⟩ y') :=
  ⟨(hp.below hb5).set 1 y' (by simp), (hr.below hb5).other (by omega), (hm.below hb5).other (by omega), (hq.below hb5).other (by omega), below_set (below_next hb hb5) _ _ (Nat.le_refl _)⟩
theorem FreshO.weak {w w1 v : World} {A : Option Addr} {n cap : Nat} {l : List Pr.Out} (h : FreshO w1 A n cap l v) (hs : w.heap.size ≤ w1.heap.size) : FreshO w A n cap l v := ⟨h.1, h.2.1, h.2.2.1, fun b o e => Nat.le_trans hs (h.2.2.2 b o e)⟩
theorem FreshO.store {w v : World} {A : Option Addr} {n cap : Nat} {l : List Pr.Out} (h : FreshO w A n cap l v) (b i : Nat) (x : Value) (hne : ∀ b' o, A = some ⟨b', o, none⟩ → b' ≠ b) : FreshO w A n cap l (v.setCell ⟨b, i, none⟩ x) := by
  refine ⟨h.1, ⟨h.2.1.1, h.2.1.2.1, fun hn => ?_⟩, h.2.2⟩
  obtain ⟨b', o, e, hb, hc⟩ := h.2.1.2.2 hn
  refine ⟨b', o, e, by simpa [World.setCell] using hb, fun j y hy => ?_⟩
  have hne' := hne b' o e
  rw [World.cell?_setCell_far _ _ _ _ (fun e2 => hne' e2.symm)]
  exact hc j y hy
theorem FreshO.store8 {w v : World} {A : Option Addr} {n cap : Nat} {l : List Pr.Out} (h : FreshO w A n cap l v) (r m : Nat) (hr : r < w.heap.size) (hm : m < w.heap.size) (x0 x1 x2 y0 y1 y2 y3 y4 : Value) :
    FreshO w A n cap l ((((((((v.setCell ⟨r, 0, none⟩ x0).setCell ⟨r, 1, none⟩ x1).setCell ⟨r, 2, none⟩ x2).setCell ⟨m, 0, none⟩ y0).setCell ⟨m, 1, none⟩ y1).setCell ⟨m, 2, none⟩ y2).setCell ⟨m, 3, none⟩ y3).setCell ⟨m, 4, none⟩ y4) := by
  have h1 : ∀ b' o, A = some ⟨b', o, none⟩ → b' ≠ r := fun b' o e => by have := h.2.2.2 b' o e; omega
  have h2 : ∀ b' o, A = some ⟨b', o, none⟩ → b' ≠ m := fun b' o e => by have := h.2.2.2 b' o e; omega
  exact (((((((h.store r 0 x0 h1).store r 1 x1 h1).store r 2 x2 h1).store m 0 y0 h2).store m 1 y1 h2).store m 2 y2 h2).store m 3 y3 h2).store m 4 y4 h2
/-- What Offer gives where it may be. -/
def GivesROff (who : Int) (B : Option Addr) (k c : Nat) (l : List Pr.Out) (key : ByteArray) (n : Int) (w : World) (e : Ending) (w' : World) : Prop :=
  ∃ A' cap', e = .returned (.tuple #[.agg #[.int .i64 who, .slice A' (l.length + 1) cap', .slice B k c], .agg #[.int .i64 1, .int .i64 who, .int .i64 (l.length : Int), .string key, .int .i64 n], .int .i64 0]) ∧ Below w.heap.size w w' ∧ FreshO w A' (l.length + 1) cap' (l ++ [⟨⟨1, who, l.length, key, n⟩, false⟩]) w'
set_option maxRecDepth 100000 in
set_option maxHeartbeats 8000000 in
theorem roffer_ok (who : Int) (A B : Option Addr) (cap k c : Nat) (l : List Pr.Out) (key : ByteArray) (n : Int) (w : World) (k1 : 1 ≤ key.size) (k2 : key.size ≤ 16) (k3 : 1 ≤ n) (k4 : n ≤ 1125899906842624) (h : RdO w A l.length l) (hl : l.length ≤ 1000) (ho : (Pr.openL l).length < 64) :
    Calls Try.prog 24 #[.agg #[.int .i64 who, .slice A l.length cap, .slice B k c], .string key, .int .i64 n] w (GivesROff who B k c l key n w) := by
  have H3 := Lib.hid (three_boxes w #[.int .i64 who, .slice A l.length cap, .slice B k c] #[.int .i64 0, .slice none 0 0, .slice none 0 0] #[.int .i64 0, .int .i64 0, .int .i64 0, .string ⟨#[]⟩, .int .i64 0] 54 54 59)
  have HA := Lib.hid (fun wx hx => ragain_any who A B cap k c l wx hx hl)
  have HR := Lib.hid h
  have q1 : ¬ (key.size : Int) < 1 := by omega
  have q2 : ¬ (16 : Int) < (key.size : Int) := by omega
  have q3 : ¬ n < 1 := by omega
  have q4 : ¬ 1125899906842624 < n := by omega
  have q5 : ¬ (64 : Int) ≤ ((Pr.openL l).length : Int) := by omega
  clear h k1 k2 k3 k4
  go_enter Try.func24, Try.ntmps24
  go_upto_region 1 with fail
  generalize (((w.alloc (.cells #[.int .i64 who, .slice A l.length cap, .slice B k c] 54)).alloc (.cells #[.int .i64 0, .slice none 0 0, .slice none 0 0] 54)).alloc (.cells #[.int .i64 0, .int .i64 0, .int .i64 0, .string ⟨#[]⟩, .int .i64 0] 59)) = w1 at *
  obtain ⟨p0, p1, p2⟩ := results3 H3.out.1
  go_wp2_with fail
  refine (HA.out w1 (HR.out.below H3.out.2.2.2)).mono ?_
  intro e w2 hg
  obtain ⟨A2, c2, rfl, h1, h2, h3, h4⟩ := hg
  have hnew : Below w2.heap.size w2 (w2.alloc (.cells #[.int .i64 1, .int .i64 who, .int .i64 (l.length : Int), .string key, .int .i64 n] 59)) := (Below.refl _ _).alloc (Nat.le_refl _) _
  have h2n := below_next h2 hnew
  have HPm := Lib.hid (H3.out.1.below h2n)
  have HRm := Lib.hid (H3.out.2.1.below h2n)
  have HMm := Lib.hid (H3.out.2.2.1.below h2n)
  have HB := Lib.hid (below_next H3.out.2.2.2 h2n)
  have HQ := Lib.hid (Holds.new w2 #[.int .i64 1, .int .i64 who, .int .i64 (l.length : Int), .string key, .int .i64 n] 59)
  have HRR := Lib.hid (HR.out.below (below_next H3.out.2.2.2 h2n))
  have HP2 := H3.out.1.below h2
  have hsz : w.heap.size + 1 + 1 < w2.heap.size := (H3.out.2.2.1.below h2).1
  clear p0 p1 p2 h1 h2 h3 h4 H3 hnew h2n
  obtain ⟨p0, p1, p2⟩ := results3 HP2
  clear HP2
  go_upto_region 6 with fail
  clear p0 p1 p2 q1 q2 q3 q4 q5
  generalize hw3 : (w2.alloc (.cells #[.int .i64 1, .int .i64 who, .int .i64 (l.length : Int), .string key, .int .i64 n] 59)) = w3 at *
  generalize hQq : w2.heap.size = Q at *
  have hQs : Q + 1 = w3.heap.size := by rw [← hQq, ← hw3]; simp
  clear hQq hw3
  have hQs1 : Q < w3.heap.size := by omega
  have hPs1 : w.heap.size < w3.heap.size := by omega
  clear hQs
  have eA : (w3.alloc (.cells #[] 89)).heap.size = w3.heap.size + 1 := by simp
  have eX : (w3.alloc (.cells #[.int .i64 1, .int .i64 who, .int .i64 (l.length : Int), .string key, .int .i64 n, .bool false] 89)).heap.size = w3.heap.size + 1 := by simp
  have BL1 := (((Below.refl w3.heap.size w3).alloc (Nat.le_refl _) (.cells #[] 89))).drew
  have BL2 := (((Below.refl w3.heap.size w3).alloc (Nat.le_refl _) (.cells #[] 89)).alloc (by omega) (.cells #[.int .i64 1, .int .i64 who, .int .i64 (l.length : Int), .string key, .int .i64 n, .bool false] 89)).drew
  have BL3 := (((Below.refl w3.heap.size w3).alloc (Nat.le_refl _) (.cells #[.int .i64 1, .int .i64 who, .int .i64 (l.length : Int), .string key, .int .i64 n, .bool false] 89)).alloc (by omega) (.cells #[] 89)).drew
  have BL4 := (((Below.refl w3.heap.size w3).alloc (Nat.le_refl _) (.cells #[.int .i64 1, .int .i64 who, .int .i64 (l.length : Int), .string key, .int .i64 n, .bool false] 89))).drew
  have OC1 : OwnC 6 (w3.alloc (.cells #[] 89)).drew w3.heap.size 89 (some ⟨w3.heap.size, 0, none⟩) 0 0 [] := OwnC.empty 6 w3 _ _ (Nat.le_refl _)
  have OC2 : OwnC 6 ((w3.alloc (.cells #[] 89)).alloc (.cells #[.int .i64 1, .int .i64 who, .int .i64 (l.length : Int), .string key, .int .i64 n, .bool false] 89)).drew w3.heap.size 89 (some ⟨w3.heap.size, 0, none⟩) 0 0 [] := OwnC.alloc OC1 _
  have OC3 : OwnC 6 ((w3.alloc (.cells #[.int .i64 1, .int .i64 who, .int .i64 (l.length : Int), .string key, .int .i64 n, .bool false] 89)).alloc (.cells #[] 89)).drew w3.heap.size 89 (some ⟨w3.heap.size + 1, 0, none⟩) 0 0 [] := by
    have h := OwnC.empty 6 (w3.alloc (.cells #[.int .i64 1, .int .i64 who, .int .i64 (l.length : Int), .string key, .int .i64 n, .bool false] 89)) 89 w3.heap.size (by omega)
    rw [eX] at h
    exact h
  have RL1 := HRR.out.2.below BL1
  have RL2 := HRR.out.2.below BL2
  have RL3 := HRR.out.2.below BL3
  have XR2 : RdC 6 ((w3.alloc (.cells #[] 89)).alloc (.cells #[.int .i64 1, .int .i64 who, .int .i64 (l.length : Int), .string key, .int .i64 n, .bool false] 89)).drew (some ⟨w3.heap.size + 1, 0, none⟩) 1 (Pr.Out.cells ⟨⟨1, who, l.length, key, n⟩, false⟩) := by
    have h := rdc_new 6 (w3.alloc (.cells #[] 89)) 89 (Pr.Out.cells ⟨⟨1, who, l.length, key, n⟩, false⟩) 1 rfl (0, 0)
    rw [eA] at h
    exact h
  have XR3 : RdC 6 ((w3.alloc (.cells #[.int .i64 1, .int .i64 who, .int .i64 (l.length : Int), .string key, .int .i64 n, .bool false] 89)).alloc (.cells #[] 89)).drew (some ⟨w3.heap.size, 0, none⟩) 1 (Pr.Out.cells ⟨⟨1, who, l.length, key, n⟩, false⟩) := by
    have h := (rdc_new 6 w3 89 (Pr.Out.cells ⟨⟨1, who, l.length, key, n⟩, false⟩) 1 rfl (0, 0)).below ((Below.refl _ _).alloc (Nat.le_refl _) (.cells #[] 89))
    exact h
  obtain ⟨d0, d1, d2, d3, d4⟩ := results5 (HQ.out.below (Below.refl w3.heap.size w3).drew)
  obtain ⟨a0, a1, a2, a3, a4⟩ := results5 (HQ.out.below BL1)
  have u0 := (HPm.out.below (Below.refl w3.heap.size w3).drew).at_ 1 rfl
  have u1 := (HPm.out.below BL1).at_ 1 rfl
  have u2 := (HPm.out.below BL2).at_ 1 rfl
  have u3 := (HPm.out.below BL3).at_ 1 rfl
  have u4 := (HPm.out.below BL4).at_ 1 rfl
  have hl1 : 0 + l.length ≤ 1000000 := by omega
  have hl2 : l.length + 1 ≤ 1000000 := by omega
  have hx1 : w3.heap.size ≠ w3.heap.size + 1 := by omega
  have hx2 : w3.heap.size + 1 ≠ w3.heap.size := by omega
  have hle : w3.heap.size ≤ w3.heap.size + 1 := by omega
  clear eA eX
  go_region_law ((first
    | (refine step_appN manyO (by rfl) 45 rfl (.tmp 42) (.tmp 44) rfl rfl OC1 A l.length cap (Pr.flatO l) (Pr.flatO_one l) rfl RL1 hl1 BL1.size ?_; intro A3 c3 v3 hg3; obtain ⟨T1, T2, T3⟩ := first_app6 BL1 (Nat.le_refl _) hg3; obtain ⟨y0, y1, y2, y3, y4⟩ := results5 (HQ.out.below T1); have O4 := T2.alloc (.cells #[.int .i64 1, .int .i64 who, .int .i64 (l.length : Int), .string key, .int .i64 n, .bool false] 89); have X4 := rdc_new 6 v3 89 (Pr.Out.cells ⟨⟨1, who, l.length, key, n⟩, false⟩) 1 rfl (0, 0); have S4 := T1.alloc T1.size (.cells #[.int .i64 1, .int .i64 who, .int .i64 (l.length : Int), .string key, .int .i64 n, .bool false] 89); clear hg3)
    | (refine step_appN manyO (by rfl) 45 rfl (.tmp 42) (.tmp 44) rfl rfl OC2 A l.length cap (Pr.flatO l) (Pr.flatO_one l) rfl RL2 hl1 BL2.size ?_; intro A3 c3 v3 hg3; obtain ⟨T1, T2, T3⟩ := first_app6 BL2 (Nat.le_refl _) hg3; have X5 := side_row6 XR2 hx1 hg3; clear hg3)
    | (refine step_appN manyO (by rfl) 45 rfl (.tmp 42) (.tmp 44) rfl rfl OC3 A l.length cap (Pr.flatO l) (Pr.flatO_one l) rfl RL3 hl1 BL3.size ?_; intro A3 c3 v3 hg3; obtain ⟨T1, T2, T3⟩ := first_app6 BL3 hle hg3; have X5 := side_row6 XR3 hx2 hg3; clear hg3)
    | (refine step_appN manyO (by rfl) 49 rfl (.tmp 45) (.tmp 48) rfl rfl O4 (some ⟨v3.heap.size, 0, none⟩) 1 1 (Pr.Out.cells ⟨⟨1, who, l.length, key, n⟩, false⟩) (Pr.out_one _) rfl X4 hl2 S4.size ?_; intro A5 c5 v5 hg5; have HF := Lib.hid (next_app6 S4 O4 hg5); have p5 := (HPm.out.below HF.out.1).at_ 1 rfl; have f5 := (HPm.out.below HF.out.1).2.2 1; clear hg5)
    | (refine step_appN manyO (by rfl) 49 rfl (.tmp 45) (.tmp 48) rfl rfl T2 (some ⟨w3.heap.size + 1, 0, none⟩) 1 1 (Pr.Out.cells ⟨⟨1, who, l.length, key, n⟩, false⟩) (Pr.out_one _) rfl X5 hl2 T1.size ?_; intro A5 c5 v5 hg5; have HF := Lib.hid (next_app6 T1 T2 hg5); have p5 := (HPm.out.below HF.out.1).at_ 1 rfl; have f5 := (HPm.out.below HF.out.1).2.2 1; clear hg5)
    | (refine step_appN manyO (by rfl) 49 rfl (.tmp 45) (.tmp 48) rfl rfl T2 (some ⟨w3.heap.size, 0, none⟩) 1 1 (Pr.Out.cells ⟨⟨1, who, l.length, key, n⟩, false⟩) (Pr.out_one _) rfl X5 hl2 T1.size ?_; intro A5 c5 v5 hg5; have HF := Lib.hid (next_app6 T1 T2 hg5); have p5 := (HPm.out.below HF.out.1).at_ 1 rfl; have f5 := (HPm.out.below HF.out.1).2.2 1; clear hg5)))
  all_goals
    have HX := Lib.hid (off_boxes (y' := .slice A5 (l.length + 1) c5) HPm.out HRm.out HMm.out HQ.out HB.out HF.out.1 hsz)
    have HO := Lib.hid (off_row (w := w3) (m := ⟨1, who, l.length, key, n⟩) (Nat.le_refl _) hPs1 rfl HF.out.2)
    clear HF p5 f5
    generalize (v5.setCell ⟨w.heap.size, 1, none⟩ (.slice A5 (l.length + 1) c5)) = v6 at *
    clear HPm HRm HMm HQ HB HRR
    obtain ⟨p0, p1, p2⟩ := results3 HX.out.1
    obtain ⟨r0, r1, r2⟩ := results3 HX.out.2.1
    obtain ⟨m0, m1, m2, m3, m4⟩ := results5 HX.out.2.2.1
    obtain ⟨t0, t1, t2, t3, t4⟩ := results5 HX.out.2.2.2.1
    have y0 := HX.out.2.1.2.2 0
    have y1 := HX.out.2.1.2.2 1
    have y2 := HX.out.2.1.2.2 2
    have z0 := HX.out.2.2.1.2.2 0
    have z1 := HX.out.2.2.1.2.2 1
    have z2 := HX.out.2.2.1.2.2 2
    have z3 := HX.out.2.2.1.2.2 3
    have z4 := HX.out.2.2.1.2.2 4
    go_wp2_with fail
    go_region
    go_wp2
    obtain ⟨c0, c1, c2⟩ := results3 ((HX.out.2.1.set3 (.int .i64 who) (.slice A5 (l.length + 1) c5) (.slice B k c)).other5 (b := w.heap.size + 1 + 1) (x := .int .i64 1) (y := .int .i64 who) (z := .int .i64 (l.length : Int)) (u := .string key) (v := .int .i64 n) (by omega))
    obtain ⟨d0, d1, d2, d3, d4⟩ := results5 ((HX.out.2.2.1.other3 (b := w.heap.size + 1) (x := .int .i64 who) (y := .slice A5 (l.length + 1) c5) (z := .slice B k c) (by omega)).set5 (.int .i64 1) (.int .i64 who) (.int .i64 (l.length : Int)) (.string key) (.int .i64 n))
    refine ⟨rfl, .tuple #[.agg #[.int .i64 who, .slice A5 (l.length + 1) c5, .slice B k c], .agg #[.int .i64 1, .int .i64 who, .int .i64 (l.length : Int), .string key, .int .i64 n], .int .i64 0], ?_, A5, c5, rfl, (below_set5 (below_set3 HX.out.2.2.2.2 _ _ _ _ (by omega)) _ _ _ _ _ _ (by omega)).drew, ((HO.out.store8 _ _ (by omega) (by omega) _ _ _ _ _ _ _ _).weak (by omega)).below (Below.refl _ _).drew⟩
    simp [results, Try.results24, go_sem, c0, c1, c2, d0, d1, d2, d3, d4]
end Go.Proofs.Ythganbbiclmgpaa
