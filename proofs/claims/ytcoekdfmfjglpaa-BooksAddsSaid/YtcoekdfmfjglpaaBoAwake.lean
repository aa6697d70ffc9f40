/- The page's example. -/
import Derived.Test.YtcoekdfmfjglpaaBoSum
import Derived.Test.YtcoekdfmfjglpaaBoFlow
import Derived.Test.YtcoekdfmfjglpaaBoSame
namespace Go.Proofs.Ytcoekdfmfjglpaa
open Go.RowKit
namespace Bo
theorem ahead_self (a : ByteArray) : ahead a a = false := by
  cases h : ahead a a with
  | false => rfl
  | true => exact absurd rfl (ahead_ne h)
theorem get_one (x : Tt) : get [x] x.key = x := get_mem (List.pairwise_singleton _ _) (by simp)
theorem ins_one {x y : Tt} (h : y.key = x.key) : ins [x] y = [y] := by
  unfold ins
  rw [← h, ahead_self, if_neg (by decide), if_pos rfl]
theorem sumR_step {T : List Tt} {i : Nat} {x : Ln} {xs : List Ln} (h : okL x = true) (hc : code T x = 0) : sumR T i (x :: xs) = sumR (next T x) (i + 1) xs := by
  show (if okL x = false then _ else _) = _
  rw [if_neg (by rw [h]; decide), if_pos hc]
theorem sumR_bad {T : List Tt} {i : Nat} {x : Ln} {xs : List Ln} (h : okL x = true) {c : Int} (hc : code T x = c) (h0 : c ≠ 0) : sumR T i (x :: xs) = ([], i, c) := by
  show (if okL x = false then _ else _) = _
  rw [if_neg (by rw [h]; decide), if_neg (by rw [hc]; exact h0), hc]
def ka : ByteArray := ⟨#[97]⟩
def kc : ByteArray := ⟨#[98]⟩
theorem three : sumL [⟨1, ka, 5⟩, ⟨3, ka, 2⟩, ⟨6, ka, 1⟩] = ([⟨ka, 2, 2, 1⟩], 0, 0) := by
  unfold sumL
  have g0 : get [] ka = ⟨ka, 0, 0, 0⟩ := rfl
  have n1 : next [] ⟨1, ka, 5⟩ = [⟨ka, 5, 0, 0⟩] := rfl
  have n2 : next [⟨ka, 5, 0, 0⟩] ⟨3, ka, 2⟩ = [⟨ka, 3, 2, 0⟩] := by
    unfold next
    rw [show get [⟨ka, 5, 0, 0⟩] (⟨3, ka, 2⟩ : Ln).key = ⟨ka, 5, 0, 0⟩ from get_one ⟨ka, 5, 0, 0⟩]
    exact ins_one rfl
  have n3 : next [⟨ka, 3, 2, 0⟩] ⟨6, ka, 1⟩ = [⟨ka, 2, 2, 1⟩] := by
    unfold next
    rw [show get [⟨ka, 3, 2, 0⟩] (⟨6, ka, 1⟩ : Ln).key = ⟨ka, 3, 2, 0⟩ from get_one ⟨ka, 3, 2, 0⟩]
    exact ins_one rfl
  rw [sumR_step (by decide) (by rfl), n1, sumR_step (by decide) (by unfold code; rw [show get [⟨ka, 5, 0, 0⟩] (⟨3, ka, 2⟩ : Ln).key = ⟨ka, 5, 0, 0⟩ from get_one ⟨ka, 5, 0, 0⟩]; rfl), n2, sumR_step (by decide) (by unfold code; rw [show get [⟨ka, 3, 2, 0⟩] (⟨6, ka, 1⟩ : Ln).key = ⟨ka, 3, 2, 0⟩ from get_one ⟨ka, 3, 2, 0⟩]; rfl), n3]
  rfl
theorem two : sumL [⟨1, kc, 5⟩, ⟨2, kc, 6⟩] = ([], 1, 201) := by
  unfold sumL
  have n1 : next [] ⟨1, kc, 5⟩ = [⟨kc, 5, 0, 0⟩] := rfl
  rw [sumR_step (by decide) (by rfl), n1, sumR_bad (c := 201) (by decide) (by unfold code; rw [show get [⟨kc, 5, 0, 0⟩] (⟨2, kc, 6⟩ : Ln).key = ⟨kc, 5, 0, 0⟩ from get_one ⟨kc, 5, 0, 0⟩]; rfl) (by decide)]
theorem fl2 : flowL ka [⟨1, ka, 5⟩, ⟨2, ka, 3⟩] = (5, 3) := by decide
end Bo
theorem RdL.new (w : World) (l : List Bo.Ln) (hk : ∀ x ∈ l, x.key.size ≤ 9223372036854775807 ∧ (-9223372036854775808 ≤ x.n ∧ x.n ≤ 9223372036854775807)) : RdL (w.alloc (.cells (Bo.lflat l).toArray 25)) (some ⟨w.heap.size, 0, none⟩) l.length l :=
  ⟨rfl, rdc_new 3 w 25 (Bo.lflat l) l.length (Bo.flatMap_length (f := Bo.Ln.cells) (fun _ => rfl) l) (0, 0), hk⟩
theorem some_self (l : List Bo.Tt) : (Bo.some_ l = Bo.some_ l) ↔ True := by simp
set_option maxRecDepth 100000 in
set_option maxHeartbeats 8000000 in
theorem awake_any (w : World) : Calls Try.prog 16 #[] w fun e w' => e = .returned (.bool true) ∧ Below w.heap.size w w' := by
  have H1 := Lib.hid (sum_any (some ⟨w.heap.size, 0, none⟩) 3 3 [⟨1, Bo.ka, 5⟩, ⟨3, Bo.ka, 2⟩, ⟨6, Bo.ka, 1⟩] _ (RdL.new w [⟨1, Bo.ka, 5⟩, ⟨3, Bo.ka, 2⟩, ⟨6, Bo.ka, 1⟩] (by intro x hx; simp at hx; rcases hx with rfl | rfl | rfl <;> decide)) (by decide))
  go_enter Try.func16, Try.ntmps16
  go_wp2_with fail
  refine H1.out.mono ?_
  rintro e w1 ⟨B, c, rfl, ho, hb⟩
  rw [Bo.three] at ho
  have ho : OwnC 4 w1 (w.alloc (.cells (Bo.lflat [⟨1, Bo.ka, 5⟩, ⟨3, Bo.ka, 2⟩, ⟨6, Bo.ka, 1⟩]).toArray 25)).heap.size 46 B 1 c (Bo.tflat [⟨Bo.ka, 2, 2, 1⟩]) := ho
  have HB1 := Lib.hid (below_next ((Below.refl w.heap.size w).alloc (Nat.le_refl _) _) hb)
  have HO := Lib.hid ho
  rw [Bo.three]
  clear ho hb H1
  have H2 := Lib.hid (sum_any (some ⟨w1.heap.size, 0, none⟩) 2 2 [⟨1, Bo.kc, 5⟩, ⟨2, Bo.kc, 6⟩] _ (RdL.new w1 [⟨1, Bo.kc, 5⟩, ⟨2, Bo.kc, 6⟩] (by intro x hx; simp at hx; rcases hx with rfl | rfl <;> decide)) (by decide))
  go_wp2_with fail
  refine H2.out.mono ?_
  rintro e w2 ⟨B2, c2, rfl, ho2, hb2⟩
  have HB2 := Lib.hid (((Below.refl w1.heap.size w1).alloc (Nat.le_refl _) (.cells (Bo.lflat [⟨1, Bo.kc, 5⟩, ⟨2, Bo.kc, 6⟩]).toArray 25)).trans (hb2.mono (by simp)))
  rw [Bo.two]
  clear ho2 hb2 H2
  have H3 := Lib.hid (flow_any Bo.ka (some ⟨w2.heap.size, 0, none⟩) 2 2 [⟨1, Bo.ka, 5⟩, ⟨2, Bo.ka, 3⟩] _ (RdL.new w2 [⟨1, Bo.ka, 5⟩, ⟨2, Bo.ka, 3⟩] (by intro x hx; simp at hx; rcases hx with rfl | rfl <;> decide)) (by decide))
  go_wp2_with fail
  refine H3.out.mono ?_
  rintro e w3 ⟨rfl, hb3⟩
  have HB3 := Lib.hid (HB2.out.trans ((((Below.refl w2.heap.size w2).alloc (Nat.le_refl _) (.cells (Bo.lflat [⟨1, Bo.ka, 5⟩, ⟨2, Bo.ka, 3⟩]).toArray 25)).trans (hb3.mono (by simp))).mono HB2.out.size))
  rw [Bo.fl2]
  clear hb3 H3 HB2
  have HO3 := Lib.hid (HO.out.below HB3.out)
  obtain ⟨g, hg, hg1, hg2⟩ := HO3.out.form (by decide)
  subst hg
  have hcell := HO3.out.rd.2 (by decide)
  obtain ⟨b', o', he, _, hc⟩ := hcell
  injection he with he
  injection he with he1 he2
  subst he1 he2
  have e0 : w3.cell? ⟨g, 0, none⟩ = some (.string ⟨#[97]⟩) := hc 0 _ rfl
  have e1 : w3.cell? ⟨g, 1, none⟩ = some (.int .i64 2) := hc 1 _ rfl
  have e2 : w3.cell? ⟨g, 2, none⟩ = some (.int .i64 2) := hc 2 _ rfl
  have e3 : w3.cell? ⟨g, 3, none⟩ = some (.int .i64 1) := hc 3 _ rfl
  clear hc hg1 hg2
  have HR3 := Lib.hid (show RdT w3 (some ⟨g, 0, none⟩) 1 [⟨Bo.ka, 2, 2, 1⟩] from ⟨rfl, HO3.out.rd, by intro x hx; simp at hx; subst hx; decide⟩)
  have H4 := Lib.hid (same_any (some ⟨g, 0, none⟩) (some ⟨g, 0, none⟩) 1 c 1 c _ _ w3 HR3.out HR3.out (by decide) (by decide))
  have g0 := Bo.byt_same ⟨#[97]⟩
  have HBw := Lib.hid (below_next HB1.out HB3.out)
  go_wp2_with fail
  refine H4.out.mono ?_
  rintro e w4 ⟨t, rfl, ht, hb4⟩
  have ht2 : t = true := by simpa using ht
  subst ht2
  have HF := Lib.hid (below_next HBw.out hb4)
  clear ht hb4
  go_wp2
  go_ret
  exact ⟨rfl, HF.out⟩
end Go.Proofs.Ytcoekdfmfjglpaa
