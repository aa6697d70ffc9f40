/- What AccountBytes and HoldBytes of package rights, and the document's, return. -/
import Derived.Test.YtionaciiaahacaaPut
import Derived.Test.YtionaciiaahacaaStepB
namespace Go.Proofs.Ytionaciiaahacaa
open Go.RowKit
set_option linter.unusedVariables false
/-- Bytes and an error, as a call returns them. -/
def GivesRow (w : World) (l : List Nat) (c : Int) (e : Ending) (w' : World) : Prop :=
  ∃ A cap, e = .returned (.tuple #[.slice A l.length cap, .int .i64 c]) ∧ Rd w' A l.length l ∧ l.length ≤ cap ∧ Below w.heap.size w w'
namespace Ac
def bytesA (f h q : Int) : List Nat := if okA f h q then numsOf [f.toNat, h.toNat, q.toNat] else []
def bytesH (n u : Int) : List Nat := if okH n u then numsOf [n.toNat, u.toNat] else []
end Ac
theorem rdi_new (w : World) (l : List Nat) (hl : ∀ x ∈ l, x ≤ 1125899906842624) : RdI (w.alloc (.cells (l.map fun (x : Nat) => Value.int .i64 (x : Int)).toArray 3)) (some ⟨w.heap.size, 0, none⟩) l.length l := by
  refine ⟨rfl, hl, fun _ => ⟨w.heap.size, 0, rfl, by simp, fun j x hx => ?_⟩⟩
  rw [Nat.zero_add, World.cell?_alloc_mark]
  simp [hx]
set_option maxRecDepth 100000 in
theorem accbytes_any (f h q : Int) (w : World) : Calls Try.prog 34 #[acc f h q] w (GivesRow w (Ac.bytesA f h q) (chkA f h q)) := by
  rcases hk : Ac.okA f h q with _ | _
  · have e1 : Ac.bytesA f h q = [] := by unfold Ac.bytesA; rw [hk]; rfl
    have e2 : chkA f h q = 206 := by unfold chkA; rw [hk]; rfl
    rw [e1, e2]
    have hc := fun w' => check_no hk w'
    unfold acc at hc ⊢
    have Hc := Lib.hid hc
    clear hc hk e1 e2
    go_enter Try.func34, Try.ntmps34
    go_wp2_with fail
    refine (Hc.out _).mono ?_
    rintro e v1 ⟨rfl, rfl⟩
    go_wp2_with fail
    go_ret2
    exact ⟨none, 0, rfl, Rd.nil _ _, Nat.le_refl _, ((Below.refl _ _).alloc (Nat.le_refl _) _).alloc (by simp) _⟩
  · have e1 : Ac.bytesA f h q = numsOf [f.toNat, h.toNat, q.toNat] := by unfold Ac.bytesA; rw [hk]; rfl
    have e2 : chkA f h q = 0 := by unfold chkA; rw [hk]; rfl
    rw [e1, e2]
    have hc := fun w' => check_yes hk w'
    obtain ⟨k1, k2, k3, k4, k5, k6, k7⟩ := Ac.okA_iff.1 hk
    obtain ⟨a, rfl⟩ := Int.eq_ofNat_of_zero_le k1
    obtain ⟨b, rfl⟩ := Int.eq_ofNat_of_zero_le k3
    obtain ⟨c, rfl⟩ := Int.eq_ofNat_of_zero_le k5
    simp only [Int.toNat_natCast]
    have hr := fun w' : World => rdi_new w' [a, b, c] (by intro x hx; simp at hx; omega)
    unfold acc at hc ⊢
    have Hc := Lib.hid hc
    have Hr := Lib.hid hr
    clear hc hk e1 e2 hr k1 k3 k5
    go_enter Try.func34, Try.ntmps34
    go_wp2_with fail
    refine (Hc.out _).mono ?_
    rintro e v1 ⟨rfl, rfl⟩
    go_wp2_with fail
    refine (put_any _ 3 3 [a, b, c] _ (by simpa using Hr.out ((w.alloc (.cells #[.int .i64 (a : Int), .int .i64 (b : Int), .int .i64 (c : Int)] 23)).alloc (.cells #[.int .i64 (a : Int), .int .i64 (b : Int), .int .i64 (c : Int)] 23))) (by omega)).mono ?_
    rintro e v2 ⟨A2, c2, rfl, ho2, hb2⟩
    have hx := below_next (show Below w.heap.size w _ from by repeat (first | exact Below.refl _ _ | refine Below.alloc ?_ (by simp <;> omega) _)) hb2
    generalize numsOf [a, b, c] = L at *
    go_wp2_with fail
    go_ret2
    exact ⟨A2, c2, rfl, ho2.rd, ho2.cap, hx⟩
set_option maxRecDepth 100000 in
theorem holdbytes_any (n u : Int) (w : World) : Calls Try.prog 36 #[hold n u] w (GivesRow w (Ac.bytesH n u) (chkH n u)) := by
  rcases hk : Ac.okH n u with _ | _
  · have e1 : Ac.bytesH n u = [] := by unfold Ac.bytesH; rw [hk]; rfl
    have e2 : chkH n u = 206 := by unfold chkH; rw [hk]; rfl
    rw [e1, e2]
    have hc := fun w' => hold_no hk w'
    unfold hold at hc ⊢
    have Hc := Lib.hid hc
    clear hc hk e1 e2
    go_enter Try.func36, Try.ntmps36
    go_wp2_with fail
    refine (Hc.out _).mono ?_
    rintro e v1 ⟨rfl, rfl⟩
    go_wp2_with fail
    go_ret2
    exact ⟨none, 0, rfl, Rd.nil _ _, Nat.le_refl _, ((Below.refl _ _).alloc (Nat.le_refl _) _).alloc (by simp) _⟩
  · have e1 : Ac.bytesH n u = numsOf [n.toNat, u.toNat] := by unfold Ac.bytesH; rw [hk]; rfl
    have e2 : chkH n u = 0 := by unfold chkH; rw [hk]; rfl
    rw [e1, e2]
    have hc := fun w' => hold_yes hk w'
    obtain ⟨k1, k2, k3, k4⟩ := Ac.okH_iff.1 hk
    obtain ⟨a, rfl⟩ := Int.eq_ofNat_of_zero_le (show 0 ≤ n by omega)
    obtain ⟨b, rfl⟩ := Int.eq_ofNat_of_zero_le k3
    simp only [Int.toNat_natCast]
    have hr := fun w' : World => rdi_new w' [a, b] (by intro x hx; simp at hx; omega)
    unfold hold at hc ⊢
    have Hc := Lib.hid hc
    have Hr := Lib.hid hr
    clear hc hk e1 e2 hr k3
    go_enter Try.func36, Try.ntmps36
    go_wp2_with fail
    refine (Hc.out _).mono ?_
    rintro e v1 ⟨rfl, rfl⟩
    go_wp2_with fail
    refine (put_any _ 2 2 [a, b] _ (by simpa using Hr.out ((w.alloc (.cells #[.int .i64 (a : Int), .int .i64 (b : Int)] 25)).alloc (.cells #[.int .i64 (a : Int), .int .i64 (b : Int)] 25))) (by omega)).mono ?_
    rintro e v2 ⟨A2, c2, rfl, ho2, hb2⟩
    have hx := below_next (show Below w.heap.size w _ from by repeat (first | exact Below.refl _ _ | refine Below.alloc ?_ (by simp <;> omega) _)) hb2
    generalize numsOf [a, b] = L at *
    go_wp2_with fail
    go_ret2
    exact ⟨A2, c2, rfl, ho2.rd, ho2.cap, hx⟩
set_option maxRecDepth 100000 in
set_option maxHeartbeats 1000000 in
theorem raccbytes_any (f h q : Int) (w : World) : Calls Try.prog 35 #[acc f h q] w (GivesRow w (Ac.bytesA f h q) (chkA f h q)) := by
  rcases hk : Ac.okA f h q with _ | _
  · have e1 : Ac.bytesA f h q = [] := by unfold Ac.bytesA; rw [hk]; rfl
    have e2 : chkA f h q = 206 := by unfold chkA; rw [hk]; rfl
    rw [e1, e2]
    have hc := fun w' => rcheck_no hk w'
    unfold acc at hc ⊢
    have Hc := Lib.hid hc
    clear hc hk e1 e2
    go_enter Try.func35, Try.ntmps35
    go_wp2_with fail
    refine (Hc.out _).mono ?_
    rintro e v1 ⟨rfl, rfl⟩
    go_wp2_with fail
    go_ret2
    exact ⟨none, 0, rfl, Rd.nil _ _, Nat.le_refl _, ((Below.refl _ _).alloc (Nat.le_refl _) _).alloc (by simp) _⟩
  · have e1 : Ac.bytesA f h q = numsOf [f.toNat, h.toNat, q.toNat] := by unfold Ac.bytesA; rw [hk]; rfl
    have e2 : chkA f h q = 0 := by unfold chkA; rw [hk]; rfl
    rw [e1, e2]
    have hc := fun w' => rcheck_yes hk w'
    obtain ⟨k1, k2, k3, k4, k5, k6, k7⟩ := Ac.okA_iff.1 hk
    obtain ⟨a, rfl⟩ := Int.eq_ofNat_of_zero_le k1
    obtain ⟨b, rfl⟩ := Int.eq_ofNat_of_zero_le k3
    obtain ⟨c, rfl⟩ := Int.eq_ofNat_of_zero_le k5
    simp only [Int.toNat_natCast]
    have hl : (Cd.num a).length + (Cd.num b).length + (Cd.num c).length ≤ 33 := by have := Cd.num_length a; have := Cd.num_length b; have := Cd.num_length c; omega
    have hw1 : IntKind.u64.wrap (a : Int) = (a : Int) := by rw [IntKind.wrap_u64]; omega
    have hw2 : IntKind.u64.wrap (b : Int) = (b : Int) := by rw [IntKind.wrap_u64]; omega
    have hw3 : IntKind.u64.wrap (c : Int) = (c : Int) := by rw [IntKind.wrap_u64]; omega
    have hna := fun w' => rnum_any a (by omega) w'
    have hnb := fun w' => rnum_any b (by omega) w'
    have hnc := fun w' => rnum_any c (by omega) w'
    have eL : numsOf [a, b, c] = Cd.num a ++ Cd.num b ++ Cd.num c := by simp [numsOf]
    rw [eL]
    unfold acc at hc ⊢
    have Hc := Lib.hid hc
    have Ha := Lib.hid hna
    have Hb := Lib.hid hnb
    have Hn := Lib.hid hnc
    clear hc hk e1 e2 k1 k3 k5 eL hna hnb hnc
    go_enter Try.func35, Try.ntmps35
    go_wp2_with fail
    refine (Hc.out _).mono ?_
    rintro e v1 ⟨rfl, rfl⟩
    generalize Cd.num a = la at *
    generalize Cd.num b = lb at *
    generalize Cd.num c = lc at *
    have hA := (Holds.new w #[.int .i64 (a : Int), .int .i64 (b : Int), .int .i64 (c : Int)] 23).alloc (.cells #[.int .i64 (a : Int), .int .i64 (b : Int), .int .i64 (c : Int)] 23)
    have hx : Below w.heap.size w ((w.alloc (.cells #[.int .i64 (a : Int), .int .i64 (b : Int), .int .i64 (c : Int)] 23)).alloc (.cells #[.int .i64 (a : Int), .int .i64 (b : Int), .int .i64 (c : Int)] 23)) := ((Below.refl _ _).alloc (Nat.le_refl _) _).alloc (by simp) _
    go_wp2_with fail
    generalize (w.alloc (.cells #[.int .i64 (a : Int), .int .i64 (b : Int), .int .i64 (c : Int)] 23)).alloc (.cells #[.int .i64 (a : Int), .int .i64 (b : Int), .int .i64 (c : Int)] 23) = w0 at *
    have La : ∀ wx : World, Below w0.heap.size w0 wx → wx.cell? ⟨w.heap.size, 0, none⟩ = some (.int .i64 (a : Int)) := fun wx h => (hA.below h).at_ 0 rfl
    have La1 : ∀ wx : World, Below w0.heap.size w0 wx → wx.cell? ⟨w.heap.size, 1, none⟩ = some (.int .i64 (b : Int)) := fun wx h => (hA.below h).at_ 1 rfl
    have hd : Below w0.heap.size w0 w0.drew := (Below.refl _ _).drew
    go_region_held_law (fun w' => Below w0.heap.size w0 w') (first | exact hd | exact hc4 | exact hc5 | exact hc6) (first | (go_at_call 52; ((with_reducible refine (Ha.out _).mono ?_); rintro e v4 ⟨A4, c4, rfl, ho4, hb4⟩; have hc4 : Below w0.heap.size w0 v4 := below_next (by assumption) hb4)) | (go_at_call 52; ((with_reducible refine (Hb.out _).mono ?_); rintro e v5 ⟨A5, c5, rfl, ho5, hb5⟩; have hc5 : Below w0.heap.size w0 v5 := below_next (by assumption) hb5; have ho4' := ho4.below hb5; have hz5 := hb5.size)) | (refine step_appB (by simp [Region.wanted]) (.tmp 11) (.tmp 15) rfl rfl ho4' A5 lb.length c5 lb rfl ho5.rd (by omega) (Nat.le_trans hb4.size hz5) ?_; intro A6 c6 v6 hg6; have hb6 := hg6.below (hb4.trans (hb5.mono hb4.size)) (Nat.le_trans hb4.size hz5) (fun g hg => (ho4'.blk g hg).1); have hc6 : Below w0.heap.size w0 v6 := below_next hd (hb6.mono (by exact Nat.le_refl _)); have ho6 := hg6.own))
    have lz := hA.1
    have hA6 := (hA.below hc6).at_ 2 rfl
    have lz6 := (hA.below hc6).1
    have hx6 := below_next hx hc6
    clear La La1 hd
    go_wp2_with fail
    refine (Hn.out _).mono ?_
    rintro e v7 ⟨A7, c7, rfl, ho7, hb7⟩
    have ho7' := ho6.below hb7
    have hx7 := below_next hx6 hb7
    go_wp2_with (first | (at_builtin; refine wpList_appB rfl (.tmp 17) (.tmp 21) rfl rfl (own_base ho7' hx.size) A7 lc.length c7 lc rfl ho7.rd (by omega) hx7.size ?_; intro A8 c8 v8 hg8))
    go_ret2
    have h8 := hg8.own
    refine ⟨A8, c8, ?_, ?_, ?_, hg8.below hx7 hx7.size (fun g hg => Nat.le_trans hx.size (ho7'.blk g hg).1)⟩
    · rw [List.length_append, List.length_append]; rfl
    · rw [List.length_append, List.length_append]; exact h8.rd
    · rw [List.length_append, List.length_append]; exact h8.cap
end Go.Proofs.Ytionaciiaahacaa
