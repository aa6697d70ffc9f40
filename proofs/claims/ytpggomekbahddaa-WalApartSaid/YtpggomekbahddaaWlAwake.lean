/- The example that the statements carry. -/
import Derived.Test.YtpggomekbahddaaM11
import Derived.Lib.SlBytesConst
namespace Go.Proofs.Ytpggomekbahddaa
open Go.RowKit Fi Fr
set_option linter.unusedVariables false
set_option linter.unusedSimpArgs false
theorem rdz_lit (w : World) (l : List Int) : RdZ (w.alloc (.cells (iv l).toArray 3)) (some ⟨w.heap.size, 0, none⟩) l.length l := by
  have h := Holds.new w (iv l).toArray 3
  refine ⟨rfl, fun _ => ⟨_, 0, rfl, by simp, fun j s hs => ?_⟩⟩
  rw [Nat.zero_add]
  exact h.at_ j (by simpa using iv_at hs)
set_option maxRecDepth 100000 in
set_option maxHeartbeats 8000000 in
theorem awake_any (w : World) : Calls Try.prog 4 #[] w fun e w' => e = .returned (.bool true) ∧ Below w.heap.size w w' := by
  go_enter Try.func4, Try.ntmps4
  go_wp2_with fail
  refine (new_any 52 _).mono ?_
  rintro e v1 hN
  rcases hN with ⟨_, _, d, lab, rfl, hD, hb1, hnl⟩ | ⟨hx, _⟩
  rotate_left
  · exact absurd ⟨by omega, by omega⟩ hx
  have HD1 := Lib.hid (show Ds w v1 d lab (Dk.St.new 52) [] from ⟨hb1, hD, fun k hk => hnl k hk, fun u hu => by cases hu⟩)
  clear hb1 hD hnl
  go_wp2_with fail
  refine (place_any 1 1 _ (by omega) (by omega)).mono ?_
  rintro e v2 ⟨hb2, pb, po, cp, rfl, hpr, _, _⟩
  have HD2 := Lib.hid (HD1.out.next hb2)
  have CO := Lib.hid (wopen_any 1 cp 2 1 1 1 ⟨pb, po, none⟩ [] v2 d lab (Dk.St.new 52) HD2.out.disk hpr (Wl.Lg.new (by omega)) (by omega) ⟨by omega, by omega⟩ ⟨by omega, by omega⟩ ⟨by omega, by omega⟩)
  clear hb2 hpr HD1
  go_wp2_with fail
  refine CO.out.mono ?_
  rintro e v3 hg
  have hg : GivesLog v2 1 2 d 1 ((1 : Nat) : Int) ([], 0) e v3 := hg
  obtain ⟨lb, ad, cl, R, rc, rfl, hA, hR, _⟩ := at_of_open (E := 1) (c := 0) HD2.out (Wl.Lg.new (by omega)) (low_new 52) (by omega) rfl hg
  have HA := Lib.hid (show At w v3 d lb ad 1 cl 2 1 1 [] 0 0 lab (Dk.St.new 52) [] from hA)
  clear hg hA hR CO HD2
  rw [show ([] : List (List Nat)).length = 0 from rfl]
  have kc := fun (w : World) (C : Array Value) (n c : Nat) => Lib.run_convert_bytes_const (P := Try.prog) w 23 5 C n c Try.underlying23 Try.underlying5
  have hz1 : (v3.alloc (.cells #[.int .u8 97] 5 (1, 2))).heap.size = v3.heap.size + 1 := by simp
  have hz2 : ((v3.alloc (.cells #[.int .u8 97] 5 (1, 2))).alloc (.cells #[.int .u8 98] 5 (1, 2))).heap.size = v3.heap.size + 1 + 1 := by simp
  have kc1 := kc v3 #[.int .u8 97] 1 1
  have kc2 := kc (v3.alloc (.cells #[.int .u8 97] 5 (1, 2))) #[.int .u8 98] 1 1
  rw [hz1] at kc2
  have hr1 : Rd (v3.alloc (.cells #[.int .u8 97] 5 (1, 2))) (some ⟨v3.heap.size, 0, none⟩) 1 [97] := rd_new v3 [97] (by decide) (1, 2)
  have hr2 : Rd ((v3.alloc (.cells #[.int .u8 97] 5 (1, 2))).alloc (.cells #[.int .u8 98] 5 (1, 2))) (some ⟨v3.heap.size + 1, 0, none⟩) 1 [98] := by have h := rd_new (v3.alloc (.cells #[.int .u8 97] 5 (1, 2))) [98] (by decide) (1, 2); rw [hz1] at h; exact h
  have hx1 : Below v3.heap.size v3 (v3.alloc (.cells #[.int .u8 97] 5 (1, 2))) := (Below.refl _ _).alloc (Nat.le_refl _) _
  have hx12 : Below (v3.alloc (.cells #[.int .u8 97] 5 (1, 2))).heap.size (v3.alloc (.cells #[.int .u8 97] 5 (1, 2))) ((v3.alloc (.cells #[.int .u8 97] 5 (1, 2))).alloc (.cells #[.int .u8 98] 5 (1, 2))) := (Below.refl _ _).alloc (Nat.le_refl _) _
  have hx23 : Below ((v3.alloc (.cells #[.int .u8 97] 5 (1, 2))).alloc (.cells #[.int .u8 98] 5 (1, 2))).heap.size ((v3.alloc (.cells #[.int .u8 97] 5 (1, 2))).alloc (.cells #[.int .u8 98] 5 (1, 2))) (((v3.alloc (.cells #[.int .u8 97] 5 (1, 2))).alloc (.cells #[.int .u8 98] 5 (1, 2))).alloc (.cells #[.slice (some ⟨v3.heap.size, 0, none⟩) 1 1, .slice (some ⟨v3.heap.size + 1, 0, none⟩) 1 1] 23)) := (Below.refl _ _).alloc (Nat.le_refl _) _
  have HA3 := Lib.hid (((HA.out.next hx1).next hx12).next hx23)
  have hrB : RdB (((v3.alloc (.cells #[.int .u8 97] 5 (1, 2))).alloc (.cells #[.int .u8 98] 5 (1, 2))).alloc (.cells #[.slice (some ⟨v3.heap.size, 0, none⟩) 1 1, .slice (some ⟨v3.heap.size + 1, 0, none⟩) 1 1] 23)) (some ⟨v3.heap.size + 1 + 1, 0, none⟩) 2 Wl.exA := by
    have h := rdb_two ((v3.alloc (.cells #[.int .u8 97] 5 (1, 2))).alloc (.cells #[.int .u8 98] 5 (1, 2))) (some ⟨v3.heap.size, 0, none⟩) (some ⟨v3.heap.size + 1, 0, none⟩) 1 1 [97] [98] (hr1.below hx12) hr2 (by decide) (by decide) (by decide) (by decide)
    rw [hz2] at h
    exact h
  have CA := Lib.hid (wadd_any w d lb ad 1 cl 2 1 1 [] 0 0 lab (Dk.St.new 52) [] (some ⟨v3.heap.size + 1 + 1, 0, none⟩) 2 Wl.exA (((v3.alloc (.cells #[.int .u8 97] 5 (1, 2))).alloc (.cells #[.int .u8 98] 5 (1, 2))).alloc (.cells #[.slice (some ⟨v3.heap.size, 0, none⟩) 1 1, .slice (some ⟨v3.heap.size + 1, 0, none⟩) 1 1] 23)) HA3.out (by omega) ⟨by omega, by omega⟩ (by omega) ⟨by omega, by omega⟩ Wl.exA_le (by decide) hrB (by omega) (by omega))
  clear hx1 hx12 hx23 hrB hr1 hr2 hz1 hz2 kc HA HA3
  go_wp2_with fail
  refine CA.out.mono ?_
  rintro e v4 hg
  unfold GivesAdd at hg
  rw [if_neg (by rw [Wl.exA_cut]; decide)] at hg
  obtain ⟨rfl, _, lab4, st4, hA4⟩ := hg
  have HA4 := Lib.hid hA4
  clear hA4 CA kc1 kc2
  rw [Wl.exA_cut] at HA4
  have hmk : ∀ w : World, (Instr.makeSlice 23 (.int .i64 200) (.int .i64 200)).run Try.prog w = .ok (.slice (some ⟨w.heap.size, 0, none⟩) 200 200) (w.alloc (.cells (madeCells #[.int .u8 0] 200) 5)) := make_all 200 (by omega)
  have hy1 : Below v4.heap.size v4 (v4.alloc (.cells (madeCells #[.int .u8 0] 200) 5)) := (Below.refl _ _).alloc (Nat.le_refl _) _
  have hy2 : Below (v4.alloc (.cells (madeCells #[.int .u8 0] 200) 5)).heap.size (v4.alloc (.cells (madeCells #[.int .u8 0] 200) 5)) ((v4.alloc (.cells (madeCells #[.int .u8 0] 200) 5)).alloc (.cells #[.slice (some ⟨v4.heap.size, 0, none⟩) 200 200] 23)) := (Below.refl _ _).alloc (Nat.le_refl _) _
  have hz1 : (v4.alloc (.cells (madeCells #[.int .u8 0] 200) 5)).heap.size = v4.heap.size + 1 := by simp
  have HA5 := Lib.hid ((HA4.out.next hy1).next hy2)
  have hrB : RdB ((v4.alloc (.cells (madeCells #[.int .u8 0] 200) 5)).alloc (.cells #[.slice (some ⟨v4.heap.size, 0, none⟩) 200 200] 23)) (some ⟨v4.heap.size + 1, 0, none⟩) 1 Wl.exB := by
    have h := rdb_one (v4.alloc (.cells (madeCells #[.int .u8 0] 200) 5)) (some ⟨v4.heap.size, 0, none⟩) 200 (List.replicate 200 0) (Own.zeros v4 0 200 (Nat.zero_le _) (by omega)).rd (by simp) (by simp)
    rw [hz1] at h
    exact h
  have CA := Lib.hid (wadd_any w d lb ad 1 cl 2 1 1 ([] ++ Fg.cut Wl.exA) (0 + Wl.exA.length) (0 + 2 * 1 + 1) lab4 st4 [] (some ⟨v4.heap.size + 1, 0, none⟩) 1 Wl.exB ((v4.alloc (.cells (madeCells #[.int .u8 0] 200) 5)).alloc (.cells #[.slice (some ⟨v4.heap.size, 0, none⟩) 200 200] 23)) HA5.out (by omega) ⟨by omega, by omega⟩ (by omega) ⟨by omega, by omega⟩ Wl.exB_le (by decide) hrB (by omega) (by decide))
  clear hy1 hy2 hrB hz1 HA4 HA5
  go_wp2_with fail
  refine CA.out.mono ?_
  rintro e v5 hg
  unfold GivesAdd at hg
  rw [List.nil_append, if_neg (by rw [Wl.exA_cut, Wl.exB_cut]; decide)] at hg
  obtain ⟨rfl, _, lab5, st5, hA5⟩ := hg
  have HA5 := Lib.hid (show At w v5 d lb ad 1 cl 2 1 1 (Fg.cut Wl.exA ++ Fg.cut Wl.exB) 3 _ lab5 st5 [] from hA5)
  clear hA5 CA hmk
  go_wp2_with fail
  refine (place_any 1 1 _ (by omega) (by omega)).mono ?_
  rintro e v6 ⟨hb6, pb2, po2, cp2, rfl, hpr, _, _⟩
  have HA6 := Lib.hid (HA5.out.next hb6)
  have CO := Lib.hid (wopen_any 1 cp2 2 1 1 2 ⟨pb2, po2, none⟩ (Fg.cut Wl.exA ++ Fg.cut Wl.exB) v6 d lab5 st5 HA6.out.ds.disk hpr HA6.out.lg (by omega) ⟨by omega, by omega⟩ ⟨by omega, by omega⟩ ⟨by omega, by omega⟩)
  rw [Wl.ex_join] at CO
  clear hb6 hpr HA5
  go_wp2_with fail
  refine CO.out.mono ?_
  rintro e v7 ⟨hb7, mb, mA, mc, R7, rc7, rfl, _, hm7, _, _, hR7, _, _⟩
  have HA7 := Lib.hid (HA6.out.next hb7)
  have HM7 := Lib.hid (show Holds v7 mb [.int .i64 7, .int .i64 1, .slice mA 1 mc, .int .i64 ((2 : Nat) : Int), .int .i64 3, .pointer (some ⟨d, 0, none⟩), .int .i64 2, .int .i64 3] from hm7)
  have HR7 := Lib.hid (show RdB v7 R7 3 [[97], [98], List.replicate 200 0] from hR7.rd)
  clear hb7 hm7 hR7 CO HA6
  have he3 : (Fg.cut Wl.exA ++ Fg.cut Wl.exB).length = 3 := by rw [List.length_append, Wl.exA_cut, Wl.exB_cut]
  have HL7 := Lib.hid (show Holds v7 lb [.int .i64 7, .int .i64 1, .slice (some ad) 1 cl, .int .i64 ((2 : Nat) : Int), .int .i64 3, .pointer (some ⟨d, 0, none⟩), .int .i64 ((1 : Nat) : Int), .int .i64 3] from by
    have h := HA7.out.box
    rw [he3] at h
    exact h)
  obtain ⟨b1, o1, Q1, q1, rfl, hb1, hc1, hr1, _⟩ := HR7.out.nth (j := 1) (l := [98]) rfl
  obtain ⟨b2, o2, Q2, q2, e2, hb2, hc2, _, _⟩ := HR7.out.nth (j := 2) (l := List.replicate 200 0) rfl
  injection e2 with e2
  injection e2 with e2 e3
  subst e2 e3
  have s1 : (convert 23 9 (.slice Q1 1 q1)).run Try.prog v7 = .ok (.string ⟨#[98]⟩) v7 := run_str (cap := q1) hr1
  have hc1 : v7.cell? ⟨b1, o1 + 1, none⟩ = some (.slice Q1 1 q1) := hc1
  have hc2 : v7.cell? ⟨b1, o1 + 2, none⟩ = some (.slice Q2 200 q2) := by rw [List.length_replicate] at hc2; exact hc2
  have CF1 := Lib.hid (show Calls Try.prog 11 #[.pointer (some ⟨mb, 0, none⟩)] v7 (fun x w' => x = .returned (.int .i64 3) ∧ v7 = w') from lframes_any mb d 1 mc mA 1 _ 3 2 3 v7 HM7.out)
  have CF2 := Lib.hid (show Calls Try.prog 11 #[.pointer (some ⟨lb, 0, none⟩)] v7 (fun x w' => x = .returned (.int .i64 3) ∧ v7 = w') from lframes_any lb d 1 cl (some ad) 1 _ 3 _ 3 v7 HL7.out)
  have CL := Lib.hid (show Calls Try.prog 15 #[.pointer (some ⟨lb, 0, none⟩)] v7 (fun x w' => x = .returned (.int .i64 5) ∧ Below v7.heap.size v7 w') from left_any lb d 1 cl (some ad) 1 _ 3 _ 3 v7 HL7.out (by omega) ⟨by omega, by omega⟩)
  have CR := Lib.hid (fun (W : World) (hW : Below v7.heap.size v7 W) => show Calls Try.prog 16 #[.pointer (some ⟨lb, 0, none⟩)] W (fun x w' => x = .returned (.int .i64 3) ∧ W = w') from records_any lb d 1 cl (some ad) 1 _ 3 _ 3 W (HL7.out.below hW))
  have C7 := Lib.hid (fun (W : World) (hW : Below v7.heap.size v7 W) => show Calls Try.prog 17 #[.pointer (some ⟨lb, 0, none⟩), .slice (some ⟨W.heap.size, 0, none⟩) 1 1] (W.alloc (.cells #[.int .i64 700] 3)) (fun x w' => x = .returned (.bool false) ∧ Below (W.alloc (.cells #[.int .i64 700] 3)).heap.size (W.alloc (.cells #[.int .i64 700] 3)) w') from by
    have h := fits_any lb d 1 cl (some ad) 1 _ 3 _ 3 (some ⟨W.heap.size, 0, none⟩) 1 1 [700] (W.alloc (.cells #[.int .i64 700] 3)) ((HL7.out.below hW).alloc _) (by omega) ⟨by omega, by omega⟩ (rdz_lit W [700]) (by omega) (by intro z hz; simp at hz; omega)
    rw [Wl.ex_fits.1] at h
    exact h)
  have C34 := Lib.hid (fun (W : World) (hW : Below v7.heap.size v7 W) => show Calls Try.prog 17 #[.pointer (some ⟨lb, 0, none⟩), .slice (some ⟨W.heap.size, 0, none⟩) 2 2] (W.alloc (.cells #[.int .i64 3, .int .i64 4] 3)) (fun x w' => x = .returned (.bool true) ∧ Below (W.alloc (.cells #[.int .i64 3, .int .i64 4] 3)).heap.size (W.alloc (.cells #[.int .i64 3, .int .i64 4] 3)) w') from by
    have h := fits_any lb d 1 cl (some ad) 1 _ 3 _ 3 (some ⟨W.heap.size, 0, none⟩) 2 2 [3, 4] (W.alloc (.cells #[.int .i64 3, .int .i64 4] 3)) ((HL7.out.below hW).alloc _) (by omega) ⟨by omega, by omega⟩ (rdz_lit W [3, 4]) (by omega) (by intro z hz; simp at hz; omega)
    rw [Wl.ex_fits.2] at h
    exact h)
  have HB7 := Lib.hid HA7.out.ds.below
  clear hb1 hb2 hr1 he3 HA7 HM7 HR7 HL7
  go_wp2_with fail
  refine CF1.out.mono ?_
  rintro e v ⟨rfl, rfl⟩
  clear CF1 s1 hc1 hc2
  go_wp2_with fail
  refine CF2.out.mono ?_
  rintro e v ⟨rfl, rfl⟩
  clear CF2
  go_wp2_with fail
  refine CL.out.mono ?_
  rintro e v8 ⟨rfl, hb8⟩
  have CR8 := Lib.hid (CR.out v8 hb8)
  have C78 := Lib.hid (C7.out v8 hb8)
  have HB8 := Lib.hid hb8
  have ha8 : Below v8.heap.size v8 (v8.alloc (.cells #[.int .i64 700] 3)) := (Below.refl _ _).alloc (Nat.le_refl _) _
  have HC8 := Lib.hid ha8
  clear CL CR C7 hb8 ha8
  go_wp2_with fail
  refine CR8.out.mono ?_
  rintro e v ⟨rfl, rfl⟩
  clear CR8
  go_wp2_with fail
  refine C78.out.mono ?_
  rintro e v9 ⟨rfl, hb9⟩
  have HB9 := Lib.hid (below_next (below_next HB8.out HC8.out) hb9)
  have C9 := Lib.hid (C34.out v9 HB9.out)
  have ha9 : Below v9.heap.size v9 (v9.alloc (.cells #[.int .i64 3, .int .i64 4] 3)) := (Below.refl _ _).alloc (Nat.le_refl _) _
  have HC9 := Lib.hid ha9
  clear C78 C34 hb9 ha9 HB8 HC8
  go_wp2_with fail
  refine C9.out.mono ?_
  rintro e va ⟨rfl, hba⟩
  have HF := Lib.hid (below_next HB7.out (below_next (below_next HB9.out HC9.out) hba))
  clear C9 hba HB9 HC9 HB7
  go_wp2_with fail
  go_ret
  exact ⟨rfl, HF.out⟩
end Go.Proofs.Ytpggomekbahddaa
