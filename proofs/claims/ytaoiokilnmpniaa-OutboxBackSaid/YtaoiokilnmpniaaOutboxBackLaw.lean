/- There and back: what Split says of a key that was made, and what is read from bytes that were made (P21.7). -/
import Derived.Test.YtaoiokilnmpniaaInBox
import Derived.Test.YtaoiokilnmpniaaBoxBack
import Derived.Test.YtaoiokilnmpniaaIns
import Derived.WalkKit
import Derived.ProofKit
import Derived.OpenShut
import Derived.ShutString
import Derived.ChangeOld
import Derived.Below
import Derived.Deep.RegionHeld
namespace Go.Proofs.Ytaoiokilnmpniaa.outboxBack
open Go.ChangeShapes Go.WideShapes Go.ChangeAt Go.RowKit
set_option linter.unusedVariables false
theorem own : ownKnob Try.prog.godebug = none := by kernel_rfl
theorem laidOut : laidOutB Try.prog = true := by kernel_rfl
/-- Where the walk is: the two structs that came in lie as they were. -/
def St (w : World) (f : Int) (x : Nat) (y : ByteArray) (n : Int) (wx : World) : Prop :=
  Below w.heap.size w wx ∧ Holds wx w.heap.size [.int .i64 f, .int .u64 (x : Int)] ∧ Holds wx (w.heap.size + 1) [.string y, .int .i64 n]
theorem St.below {w : World} {f : Int} {x : Nat} {y : ByteArray} {n : Int} {a b : World} (h : St w f x y n a) (hb : Below a.heap.size a b) : St w f x y n b := ⟨below_next h.1 hb, h.2.1.below hb, h.2.2.below hb⟩
theorem St.alloc {w : World} {f : Int} {x : Nat} {y : ByteArray} {n : Int} {a : World} (h : St w f x y n a) (o : Obj) : St w f x y n (a.alloc o) := h.below ((Below.refl _ _).alloc (Nat.le_refl _) o)
theorem St.start (w : World) (f : Int) (x : Nat) (y : ByteArray) (n : Int) : St w f x y n ((w.alloc (.cells #[.int .i64 f, .int .u64 (x : Int)] 24)).alloc (.cells #[.string y, .int .i64 n] 58)) :=
  ⟨((Below.refl _ _).alloc (Nat.le_refl _) _).alloc (by simp) _, (Holds.new w #[.int .i64 f, .int .u64 (x : Int)] 24).alloc _, by simpa using Holds.new (w.alloc (.cells #[.int .i64 f, .int .u64 (x : Int)] 24)) #[.string y, .int .i64 n] 58⟩
set_option maxRecDepth 100000 in
theorem intentbytes_all (s : ByteArray) (n : Int) (w : World) (hs : s.size ≤ 9223372036854775807) : Calls Try.prog 44 #[intentV s n] w (GivesRow w (Ob.intentBs s n) (Ob.bad (Ob.isI s n))) := by
  cases hk : Ob.isI s n
  · have hck := fun W => isintent_any s n W hs
    unfold intentV at hck ⊢
    rw [show Ob.intentBs s n = [] by unfold Ob.intentBs; rw [hk]; rfl]
    rw [hk] at hck
    have Hck := Lib.hid hck
    clear hck hk
    go_enter Try.func44, Try.ntmps44
    go_wp2_with (first | (go_at_call 71; refine (Hck.out _).mono ?_; rintro e w' ⟨rfl, rfl⟩))
    go_ret2
    exact ⟨none, 0, rfl, Rd.nil _ _, Nat.le_refl _, ((Below.refl _ _).alloc (Nat.le_refl _) _).alloc (by simp) _⟩
  · rw [← hk]
    refine intentbytes_any s n w ?_
    unfold Ob.isI nameB at hk
    rw [Bool.and_eq_true, decide_eq_true_iff] at hk
    omega
theorem nat_of (n : Int) (a b : Int) (ha : 0 ≤ a) (h : withinB n a b = true) : ∃ m : Nat, n = (m : Int) ∧ a ≤ (m : Int) ∧ (m : Int) ≤ b := by
  obtain ⟨h1, h2⟩ := of_decide_eq_true (show decide (a ≤ n ∧ n ≤ b) = true from h)
  obtain ⟨m, rfl⟩ := Int.eq_ofNat_of_zero_le (show 0 ≤ n by omega)
  exact ⟨m, rfl, h1, h2⟩
theorem name_le {s : ByteArray} (h : nameB s = true) : s.size ≤ 16 := (of_decide_eq_true (show decide (1 ≤ s.size ∧ s.size ≤ 16) = true from h)).2
def GivesFour (k x : ByteArray) (n : Int) (w : World) (e : Ending) (w' : World) : Prop := e = .returned (.tuple #[.string k, .string x, .int .i64 n, .int .i64 0]) ∧ Below w.heap.size w w'
theorem four_of {s k x : ByteArray} {n : Int} (hs : s.size ≤ 100000) (h : splitO s = some (k, x, n)) (W : World) : Calls Try.prog 38 #[.string s] W (GivesFour k x n W) := by
  have h2 := split_any s W hs
  rw [h] at h2
  exact h2
theorem there_hold (s : ByteArray) (n : Int) : mkE (nameB s && withinB n 0 1099511627776) = 1 ∨ mkE (nameB s && withinB n 0 1099511627776) = 0 ∧ ∀ W, Calls Try.prog 38 #[.string (mkS (nameB s && withinB n 0 1099511627776) [⟨#[104]⟩, s, numS n 8])] W (GivesFour ⟨#[104]⟩ s n W) := by
  cases hk : nameB s && withinB n 0 1099511627776
  · exact .inl rfl
  · refine .inr ⟨rfl, fun W => ?_⟩
    rw [Bool.and_eq_true] at hk
    obtain ⟨m, rfl, m1, m2⟩ := nat_of _ _ _ (by omega) hk.2
    exact four_of (s := str (Cd.keyOf [⟨#[104]⟩, s, numS (m : Int) 8])) (Nat.le_trans (key_short _ _ _ (by decide) (name_le hk.1) (numS_size _ _)) (by omega)) (back_hold s m hk.1 (by omega)) W
theorem there_account (s : ByteArray) : mkE (nameB s) = 1 ∨ mkE (nameB s) = 0 ∧ ∀ W, Calls Try.prog 38 #[.string (mkS (nameB s) [⟨#[97]⟩, s])] W (GivesFour ⟨#[97]⟩ s 0 W) := by
  cases hk : nameB s
  · exact .inl rfl
  · refine .inr ⟨rfl, fun W => ?_⟩
    exact four_of (s := str (Cd.keyOf [⟨#[97]⟩, s])) (Nat.le_trans (key2_size _ _ (by decide) (name_le hk)) (by omega)) (back_account s hk) W
theorem there_out (p n : Int) : mkE (withinB p 1 15 && withinB n 0 1099511627776) = 1 ∨ mkE (withinB p 1 15 && withinB n 0 1099511627776) = 0 ∧ ∃ (P : ByteArray) (c : Nat) (h0 : 0 < P.size), P[0].toNat = c ∧ c < 256 ∧ p = (c : Int) ∧ ((P.size : Int) == 1) = true ∧ ∀ W, Calls Try.prog 38 #[.string (mkS (withinB p 1 15 && withinB n 0 1099511627776) [⟨#[111]⟩, numS p 1, numS n 8])] W (GivesFour ⟨#[111]⟩ P n W) := by
  cases hk : withinB p 1 15 && withinB n 0 1099511627776
  · exact .inl rfl
  · rw [Bool.and_eq_true] at hk
    obtain ⟨m, rfl, m1, m2⟩ := nat_of _ _ _ (by omega) hk.2
    obtain ⟨q, rfl, q1, q2⟩ := nat_of _ _ _ (by omega) hk.1
    obtain ⟨z1, z2, z3⟩ := peer_numS q (by omega) (by omega)
    obtain ⟨c, h0, c1, c2, c3⟩ := peerS_one z1
    have hcq : c = q := by
      rw [List.getD_eq_getElem?_getD, bs_at h0] at z2
      rw [← c1]; exact z2
    subst hcq
    refine .inr ⟨rfl, numS (c : Int) 1, c, h0, c1, c2, rfl, by rw [beq_iff_eq]; omega, fun W => ?_⟩
    exact four_of (s := str (Cd.keyOf [⟨#[111]⟩, numS (c : Int) 1, numS (m : Int) 8])) (Nat.le_trans (key_short _ _ _ (by decide) (by omega) (numS_size _ _)) (by omega)) (back_out c m (by omega) (by omega) (by omega)) W
theorem there_inbox (p : Int) : mkE (withinB p 1 15) = 1 ∨ mkE (withinB p 1 15) = 0 ∧ ∃ (P : ByteArray) (c : Nat) (h0 : 0 < P.size), P[0].toNat = c ∧ c < 256 ∧ p = (c : Int) ∧ ((P.size : Int) == 1) = true ∧ ∀ W, Calls Try.prog 38 #[.string (mkS (withinB p 1 15) [⟨#[105]⟩, numS p 1])] W (GivesFour ⟨#[105]⟩ P 0 W) := by
  cases hk : withinB p 1 15
  · exact .inl rfl
  · obtain ⟨q, rfl, q1, q2⟩ := nat_of _ _ _ (by omega) hk
    obtain ⟨z1, z2, z3⟩ := peer_numS q (by omega) (by omega)
    obtain ⟨c, h0, c1, c2, c3⟩ := peerS_one z1
    have hcq : c = q := by
      rw [List.getD_eq_getElem?_getD, bs_at h0] at z2
      rw [← c1]; exact z2
    subst hcq
    refine .inr ⟨rfl, numS (c : Int) 1, c, h0, c1, c2, rfl, by rw [beq_iff_eq]; omega, fun W => ?_⟩
    exact four_of (s := str (Cd.keyOf [⟨#[105]⟩, numS (c : Int) 1])) (Nat.le_trans (key2_size _ _ (by decide) (by omega)) (by omega)) (back_inbox c (by omega) (by omega)) W
theorem there_num (n : Int) : Ob.bad (withinB n 0 1099511627776) = 215 ∨ Ob.bad (withinB n 0 1099511627776) = 0 ∧ ∀ (W : World) A cap, Rd W A (Ob.numBs n).length (Ob.numBs n) → (Ob.numBs n).length ≤ cap → Calls Try.prog 46 #[.slice A (Ob.numBs n).length cap] W (GivesNum2 W (n, 0)) := by
  cases hk : withinB n 0 1099511627776
  · exact .inl rfl
  · refine .inr ⟨rfl, fun W A cap h1 h2 => ?_⟩
    obtain ⟨m, rfl, m1, m2⟩ := nat_of _ _ _ (by omega) hk
    have e : Ob.numBs (m : Int) = Cd.num m := by unfold Ob.numBs; rw [hk]; rfl
    rw [e] at h1 h2 ⊢
    have h3 := readnum_any A _ cap _ W h1 h2 (by have := Cd.num_length m; omega)
    rw [back_num m (by omega)] at h3
    exact h3
theorem there_box (f : Int) (x : Nat) (hx : x < 18446744073709551616) : chkB f x = 215 ∨ chkB f x = 0 ∧ ∀ (W : World) A cap, Rd W A (Ob.boxBs f x).length (Ob.boxBs f x) → (Ob.boxBs f x).length ≤ cap → Calls Try.prog 48 #[.slice A (Ob.boxBs f x).length cap] W (GivesBox W (f, x, 0)) := by
  cases hk : Ob.isB f x
  · exact .inl (by unfold chkB; rw [hk]; rfl)
  · refine .inr ⟨by unfold chkB; rw [hk]; rfl, fun W A cap h1 h2 => ?_⟩
    obtain ⟨k1, k2, k3⟩ := Ob.isB_iff.1 hk
    obtain ⟨m, rfl⟩ := Int.eq_ofNat_of_zero_le k1
    have e : Ob.boxBs (m : Int) x = Cd.num m ++ Cd.num x := by unfold Ob.boxBs; rw [hk]; rfl
    rw [e] at h1 h2 ⊢
    have h3 := readbox_any A _ cap _ W h1 h2 (by rw [List.length_append]; have := Cd.num_length m; have := Cd.num_length x; omega)
    rw [back_box m x (by omega) hx k3] at h3
    exact h3
theorem there_intent (s : ByteArray) (n : Int) : Ob.bad (Ob.isI s n) = 215 ∨ Ob.bad (Ob.isI s n) = 0 ∧ ∀ (W : World) A cap, Rd W A (Ob.intentBs s n).length (Ob.intentBs s n) → (Ob.intentBs s n).length ≤ cap → Calls Try.prog 50 #[.slice A (Ob.intentBs s n).length cap] W (GivesIntent W (s, n, 0)) := by
  cases hk : Ob.isI s n
  · exact .inl rfl
  · refine .inr ⟨rfl, fun W A cap h1 h2 => ?_⟩
    have hk0 := hk
    unfold Ob.isI at hk0
    rw [Bool.and_eq_true] at hk0
    obtain ⟨m, rfl, m1, m2⟩ := nat_of _ _ _ (by omega) hk0.2
    have e : Ob.intentBs s (m : Int) = Cd.text s ++ Cd.num m := by unfold Ob.intentBs; rw [hk]; rfl
    rw [e] at h1 h2 ⊢
    have hs := name_le hk0.1
    have h3 := readintent_any A _ cap _ W h1 h2 (by
      have h1 := Cd.num_length m
      have h2 := Cd.num_length s.size
      have h3 : (Cd.text s).length = (Cd.num s.size).length + s.size := by unfold Cd.text; rw [List.length_append, bs_length]
      rw [List.length_append]; omega)
    rw [back_intent s m hk] at h3
    exact h3
set_option maxRecDepth 100000 in
set_option maxHeartbeats 8000000 in
theorem walk (s0 : ByteArray) (n1 : Int) (n2 : Int) (f3 : Int) (x3 : Nat) (y4 : ByteArray) (n4 : Int) (w : World) (w0 : s0.size ≤ 9223372036854775807) (wl1 : -9223372036854775808 ≤ n1) (w1 : n1 ≤ 9223372036854775807) (wl2 : -9223372036854775808 ≤ n2) (w2 : n2 ≤ 9223372036854775807) (wl3 : -9223372036854775808 ≤ f3) (wh3 : f3 ≤ 9223372036854775807) (w3 : x3 < 18446744073709551616) (ws4 : y4.size ≤ 9223372036854775807) (wl4 : -9223372036854775808 ≤ n4) (w4 : n4 ≤ 9223372036854775807) :
    Calls Try.prog 9 #[.string s0, .int .i64 n1, .int .i64 n2, boxV f3 x3, intentV y4 n4] w fun e w' => e = .returned (.bool true) ∧ Below w.heap.size w w' := by
  -- heartbeats 8000000
  obtain ⟨u, hu⟩ : ∃ u, u = if 20 < s0.size then 20 else s0.size := ⟨_, rfl⟩
  have hu1 : (if (20 : Int) < (s0.size : Int) then (20 : Int) else (s0.size : Int)) = (u : Int) := by
    rw [hu]; split <;> split <;> omega
  have hu2 : (u : Int) ≤ (s0.size : Int) := by rw [← hu1]; split <;> omega
  obtain ⟨s, hs⟩ : ∃ s, s0.extract 0 u = s := ⟨_, rfl⟩
  have hss : s.size ≤ 20 := by rw [← hs, ByteArray.size_extract, hu]; split <;> omega
  clear hu
  have g1 := fun (W : World) => kholdkey s n2 W (by omega)
  have g2 := fun (W : World) => kaccountkey s W (by omega)
  have g3 := fun (W : World) => koutkey n1 n2 W
  have g4 := fun (W : World) => kinboxkey n1 W
  have g5 := fun (W : World) => numbytes_any n2 W
  have g6 := fun (W : World) => inboxbytes_any f3 x3 W w3
  have g7 := fun (W : World) => intentbytes_all y4 n4 W ws4
  have d1 := there_hold s n2
  have d2 := there_account s
  have d3 := there_out n1 n2
  have d4 := there_inbox n1
  have d5 := there_num n2
  have d6 := there_box f3 x3 w3
  have d7 := there_intent y4 n4
  unfold GivesKey at g1 g2 g3 g4
  unfold GivesFour at d1 d2 d3 d4
  unfold GivesNum2 at d5
  unfold GivesBox boxV at d6
  unfold GivesIntent intentV at d7
  unfold boxV at g6 ⊢
  unfold intentV at g7 ⊢
  generalize mkS (nameB s && withinB n2 0 1099511627776) [⟨#[104]⟩, s, numS n2 8] = K1 at g1 d1
  generalize mkE (nameB s && withinB n2 0 1099511627776) = E1 at g1 d1
  generalize mkS (nameB s) [⟨#[97]⟩, s] = K2 at g2 d2
  generalize mkE (nameB s) = E2 at g2 d2
  generalize mkS (withinB n1 1 15 && withinB n2 0 1099511627776) [⟨#[111]⟩, numS n1 1, numS n2 8] = K3 at g3 d3
  generalize mkE (withinB n1 1 15 && withinB n2 0 1099511627776) = E3 at g3 d3
  generalize mkS (withinB n1 1 15) [⟨#[105]⟩, numS n1 1] = K4 at g4 d4
  generalize mkE (withinB n1 1 15) = E4 at g4 d4
  generalize Ob.numBs n2 = L5 at g5 d5
  generalize Ob.bad (withinB n2 0 1099511627776) = E5 at g5 d5
  generalize Ob.boxBs f3 x3 = L6 at g6 d6
  generalize chkB f3 x3 = E6 at g6 d6
  generalize Ob.intentBs y4 n4 = L7 at g7 d7
  generalize Ob.bad (Ob.isI y4 n4) = E7 at g7 d7
  have G1 := Lib.hid g1
  have D1 := Lib.hid d1
  have G2 := Lib.hid g2
  have D2 := Lib.hid d2
  have G3 := Lib.hid g3
  have D3 := Lib.hid d3
  have G4 := Lib.hid g4
  have D4 := Lib.hid d4
  have G5 := Lib.hid g5
  have D5 := Lib.hid d5
  have G6 := Lib.hid g6
  have D6 := Lib.hid d6
  have G7 := Lib.hid g7
  have D7 := Lib.hid d7
  clear g1 d1 g2 d2 g3 d3 g4 d4 g5 d5 g6 d6 g7 d7 hss
  have hst0 := St.start w f3 x3 y4 n4
  go_enter Try.func9, Try.ntmps9
  go_wp2_with fail
  refine (awake_any _).mono ?_
  rintro e v0 ⟨rfl, hb⟩
  have hst := hst0.below hb
  clear hb hst0
  go_wp2_with fail
  refine (G1.out _).mono ?_
  rintro e v1 ⟨rfl, hb⟩
  replace hst := hst.below hb
  clear hb
  go_upto_if 61 with fail
  go_cut [13, 14, 15, 16] from 62 to 84 (fun s13 s14 s15 s16 wx => St w f3 x3 y4 n4 wx)
  case first =>
    rcases D1.out with rfl | ⟨rfl, hsp⟩
    · go_wp2_with fail
      go_meet
      exact hst
    · have Hsp := Lib.hid hsp
      clear hsp
      go_wp2_with fail
      refine (Hsp.out _).mono ?_
      rintro e v ⟨rfl, hb⟩
      go_wp2_with fail
      go_meet
      exact hst.below hb
  case rest =>
    clear hst
    have hst := hcut
    clear hcut
    go_wp2_with fail
    refine (G2.out _).mono ?_
    rintro e v2 ⟨rfl, hb⟩
    replace hst := hst.below hb
    clear hb
    go_upto_if 91 with fail
    go_cut [19, 20, 21, 22] from 92 to 113 (fun s19 s20 s21 s22 wx => St w f3 x3 y4 n4 wx)
    case first =>
      rcases D2.out with rfl | ⟨rfl, hsp⟩
      · go_wp2_with fail
        go_meet
        exact hst
      · have Hsp := Lib.hid hsp
        clear hsp
        go_wp2_with fail
        refine (Hsp.out _).mono ?_
        rintro e v ⟨rfl, hb⟩
        go_wp2_with fail
        go_meet
        exact hst.below hb
    case rest =>
      clear hst
      have hst := hcut
      clear hcut
      go_wp2_with fail
      refine (G3.out _).mono ?_
      rintro e v3 ⟨rfl, hb⟩
      replace hst := hst.below hb
      clear hb
      go_upto_if 121 with fail
      go_cut [25, 26, 27, 28] from 122 to 151 (fun s25 s26 s27 s28 wx => St w f3 x3 y4 n4 wx)
      case first =>
        rcases D3.out with rfl | ⟨rfl, P, c, h0, c1, c2, rfl, c3, hsp⟩
        · go_wp2_with fail
          go_meet
          exact hst
        · have Hsp := Lib.hid hsp
          clear hsp
          have c4 : (P.size : Int) = 1 := eq_of_beq c3
          go_wp2_with fail
          refine (Hsp.out _).mono ?_
          rintro e v ⟨rfl, hb⟩
          go_wp2_with fail
          go_meet
          exact hst.below hb
      case rest =>
        clear hst
        have hst := hcut
        clear hcut
        go_wp2_with fail
        refine (G4.out _).mono ?_
        rintro e v4 ⟨rfl, hb⟩
        replace hst := hst.below hb
        clear hb
        go_upto_if 158 with fail
        go_cut [31, 32, 33, 34] from 159 to 183 (fun s31 s32 s33 s34 wx => St w f3 x3 y4 n4 wx)
        case first =>
          rcases D4.out with rfl | ⟨rfl, P, c, h0, c1, c2, rfl, c3, hsp⟩
          · go_wp2_with fail
            go_meet
            exact hst
          · have Hsp := Lib.hid hsp
            clear hsp
            have c4 : (P.size : Int) = 1 := eq_of_beq c3
            go_wp2_with fail
            refine (Hsp.out _).mono ?_
            rintro e v ⟨rfl, hb⟩
            go_wp2_with fail
            go_meet
            exact hst.below hb
        case rest =>
          clear hst
          have hst := hcut
          clear hcut
          go_wp2_with fail
          refine (G5.out _).mono ?_
          rintro e v5 ⟨X5, k5, rfl, hr5, hk5, hb⟩
          replace hst := hst.below hb
          clear hb
          go_upto_if 190 with fail
          go_cut [37, 38] from 191 to 202 (fun s37 s38 wx => St w f3 x3 y4 n4 wx)
          case first =>
            rcases D5.out with rfl | ⟨rfl, hsp⟩
            · go_wp2_with fail
              go_meet
              exact hst
            · have Hsp := Lib.hid hsp
              clear hsp
              go_wp2_with fail
              refine (Hsp.out _ _ _ hr5 hk5).mono ?_
              rintro e v ⟨rfl, hb⟩
              replace hst := hst.below hb
              go_wp2_with fail
              go_meet
              exact hst
          case rest =>
            clear hst
            have hst := hcut
            clear hcut
            have lB := hst.2.1.1
            have cB0 := hst.2.1.at_ 0 rfl
            have cB1 := hst.2.1.at_ 1 rfl
            go_wp2_with fail
            refine (G6.out _).mono ?_
            rintro e v6 ⟨X6, k6, rfl, hr6, hk6, hb⟩
            replace hst := hst.below hb
            clear hb
            clear lB cB0 cB1
            go_upto_if 209 with fail
            go_cut [41, 42] from 210 to 221 (fun s41 s42 wx => St w f3 x3 y4 n4 wx)
            case first =>
              rcases D6.out with rfl | ⟨rfl, hsp⟩
              · go_wp2_with fail
                go_meet
                exact hst
              · have Hsp := Lib.hid hsp
                clear hsp
                go_wp2_with fail
                refine (Hsp.out _ _ _ hr6 hk6).mono ?_
                rintro e v ⟨rfl, hb⟩
                replace hst := hst.below hb
                have lB := hst.2.1.1
                have cB0 := hst.2.1.at_ 0 rfl
                have cB1 := hst.2.1.at_ 1 rfl
                go_wp2_with fail
                go_meet
                exact hst.alloc _
            case rest =>
              clear hst
              have hst := hcut
              clear hcut
              have lU := hst.2.2.1
              have cU0 := hst.2.2.at_ 0 rfl
              have cU1 := hst.2.2.at_ 1 rfl
              go_wp2_with fail
              refine (G7.out _).mono ?_
              rintro e v7 ⟨X7, k7, rfl, hr7, hk7, hb⟩
              replace hst := hst.below hb
              clear hb
              clear lU cU0 cU1
              go_upto_if 228 with fail
              go_cut [45, 46] from 229 to 240 (fun s45 s46 wx => St w f3 x3 y4 n4 wx)
              case first =>
                rcases D7.out with rfl | ⟨rfl, hsp⟩
                · go_wp2_with fail
                  go_meet
                  exact hst
                · have Hsp := Lib.hid hsp
                  clear hsp
                  go_wp2_with fail
                  refine (Hsp.out _ _ _ hr7 hk7).mono ?_
                  rintro e v ⟨rfl, hb⟩
                  replace hst := hst.below hb
                  have lU := hst.2.2.1
                  have cU0 := hst.2.2.at_ 0 rfl
                  have cU1 := hst.2.2.at_ 1 rfl
                  go_wp2_with fail
                  go_meet
                  exact hst.alloc _
              case rest =>
                clear hst
                have hst := hcut
                clear hcut
                go_wp2_with fail
                go_ret
                exact ⟨rfl, hst.1⟩
set_option maxRecDepth 100000 in
theorem lifted (os : Os) (started : os.Started) (H : Type) (enc : TypeId × Value → H) :
    ReturnsInHanded {} Try.checked os 9 .any (Rows.outboxBackSpec.pre6 enc Try.prog Try.f9 Rows.outboxBackRow.domain false) (Rows.outboxBackSpec.post enc Try.prog Try.f9 false true false false) := by
  refine returnsInHanded_of_change (C := Try.checked) own started (by kernel_rfl) Try.func9
    (ChangeSpec.witness6 (enc := enc) (C := Try.checked) false ⟨#[], #[.string ⟨#[]⟩, .int .i64 0, .int .i64 0, .agg #[.int .i64 0, .int .u64 0], .agg #[.string ⟨#[]⟩, .int .i64 0]], []⟩ 8 (by kernel_rfl) (by kernel_rfl) (by kernel_rfl) (by kernel_rfl)) ?_
  intro W base args ds gs before hval0 hW hcnd _
  have hval : ∀ (j : Nat) t v, Try.f9.params[j]? = some t → args[j]? = some v → Value.okWide Try.prog W .any base t v := hval0
  have hW' := hW
  obtain ⟨p, q, hA0, hV, rfl, hfz, hnd⟩ := hW
  have hA : DataW.TrodAll enc Try.prog W 0 (fun _ => true) true Try.f9.params.toList args.toList ds p := hA0
  rw [Try.params9] at hA hval
  obtain ⟨v0, vs0, d0, ds0, p0, q0, hargs, rfl, rfl, h0, t0⟩ := trodAll_cons hA
  obtain ⟨v1, vs1, d1, ds1, p1, q1, rfl, rfl, rfl, h1, t1⟩ := trodAll_cons t0
  obtain ⟨v2, vs2, d2, ds2, p2, q2, rfl, rfl, rfl, h2, t2⟩ := trodAll_cons t1
  obtain ⟨v3, vs3, d3, ds3, p3, q3, rfl, rfl, rfl, h3, t3⟩ := trodAll_cons t2
  obtain ⟨v4, vs4, d4, ds4, p4, q4, rfl, rfl, rfl, h4, t4⟩ := trodAll_cons t3
  obtain ⟨rfl, rfl, rfl⟩ := trodAll_nil t4
  obtain rfl : args = #[v0, v1, v2, v3, v4] := by cases args; simp_all
  obtain ⟨rfl, rfl⟩ := trodVars_none hV
  have k0 : Reads enc W 9 v0 d0 p0 := h0
  have lt0 : ∀ x ∈ p0, x.block < W.heap.size := by obtain ⟨m, hm⟩ := k0; exact DataW.trod_lt m _ _ _ hm
  obtain ⟨s0, rfl, w0⟩ := in_str (hval 0 9 v0 rfl rfl) k0
  have k1 : Reads enc W 3 v1 d1 p1 := h1
  have lt1 : ∀ x ∈ p1, x.block < W.heap.size := by obtain ⟨m, hm⟩ := k1; exact DataW.trod_lt m _ _ _ hm
  obtain ⟨n1, rfl, wl1, w1⟩ := in_int (hval 1 3 v1 rfl rfl) k1
  have k2 : Reads enc W 3 v2 d2 p2 := h2
  have lt2 : ∀ x ∈ p2, x.block < W.heap.size := by obtain ⟨m, hm⟩ := k2; exact DataW.trod_lt m _ _ _ hm
  obtain ⟨n2, rfl, wl2, w2⟩ := in_int (hval 2 3 v2 rfl rfl) k2
  have k3 : Reads enc W 24 v3 d3 p3 := h3
  have lt3 : ∀ x ∈ p3, x.block < W.heap.size := by obtain ⟨m, hm⟩ := k3; exact DataW.trod_lt m _ _ _ hm
  obtain ⟨f3, x3, rfl, wl3, wh3, w3⟩ := in_inbox (hval 3 24 v3 rfl rfl) k3
  have k4 : Reads enc W 58 v4 d4 p4 := h4
  have lt4 : ∀ x ∈ p4, x.block < W.heap.size := by obtain ⟨m, hm⟩ := k4; exact DataW.trod_lt m _ _ _ hm
  obtain ⟨y4, n4, rfl, ws4, wl4, w4⟩ := in_intent (hval 4 58 v4 rfl rfl) k4
  clear hA0 hval0
  refine (walk s0 n1 n2 f3 x3 y4 n4 W w0 wl1 w1 wl2 w2 wl3 wh3 w3 ws4 wl4 w4).mono fun e W' ⟨he, bel⟩ => ?_
  subst he
  exact ⟨_, rfl, _, _, _, [], _, [], hW', trodAll_mk1 (shut_bool Try.underlying4 _), (trodAll_cons_mk (Below.trod laidOut (by kernel_rfl) (of_decide_eq_true (by kernel_rfl)) k0 bel lt0) (trodAll_cons_mk (Below.trod laidOut (by kernel_rfl) (of_decide_eq_true (by kernel_rfl)) k1 bel lt1) (trodAll_cons_mk (Below.trod laidOut (by kernel_rfl) (of_decide_eq_true (by kernel_rfl)) k2 bel lt2) (trodAll_cons_mk (Below.trod laidOut (by kernel_rfl) (of_decide_eq_true (by kernel_rfl)) k3 bel lt3) (trodAll_cons_mk (Below.trod laidOut (by kernel_rfl) (of_decide_eq_true (by kernel_rfl)) k4 bel lt4) trodAll_mk0))))), rfl, bel.frame _, fun h => by cases h⟩
theorem over : Rows.outboxBackRow.holds Try.pinned (OpenSpec.ofChange Rows.outboxBackSpec) :=
  OpenClaim.holds_of_wide 9 Try.f9 rfl rfl rfl rfl rfl rfl rfl ⟨rfl, rfl, rfl, rfl, rfl⟩ rfl rfl rfl rfl rfl (by kernel_rfl) Try.func9 (by kernel_rfl)
    (of_decide_eq_true (by kernel_rfl)) (by unfold Func.isWrapper; first | (rw [if_pos (by decide +kernel)]; kernel_rfl) | (rw [if_neg (by decide +kernel)]; exact ⟨rfl, rfl⟩))
    (fun os started H enc _ => lifted os started H enc)
theorem proved : Rows.OutboxBackSaid := over
end Go.Proofs.Ytaoiokilnmpniaa.outboxBack
