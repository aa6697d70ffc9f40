/- What outbox's keys and the document's return. -/
import Derived.Test.YtaoiokilnmpniaaBoxWords
namespace Go.Proofs.Ytaoiokilnmpniaa
open Go.RowKit
set_option linter.unusedVariables false
set_option maxRecDepth 100000 in
theorem peerkey_any (k : ByteArray) (p : Int) (w : World) (hk : k.size ≤ 100000) : Calls Try.prog 63 #[.string k, .int .i64 p] w (GivesKey w (withinB p 1 15) [k, (numS p 1)]) := by
  have hpeer := fun W => ispeer_any p W
  have htp := fun W => peertext_one p W
  have hzp := numS_size p 1
  generalize numS p 1 = tp at *
  generalize withinB p 1 15 = b0 at *
  have Hpeer := Lib.hid hpeer
  have Htp := Lib.hid htp
  clear hpeer htp
  cases b0
  all_goals
    go_enter Try.func63, Try.ntmps63
    go_wp2_with (first | (go_at_call 59; refine (Hpeer.out _).mono ?_; rintro e w' ⟨rfl, rfl⟩) | (go_at_call 60; refine (Htp.out _).mono ?_; rintro e wp ⟨rfl, hbp⟩) | (go_at_call 53; refine (key2 k tp hk (by omega) _).mono ?_; rintro e wk ⟨rfl, hbk⟩))
    go_ret2
    first | exact ⟨rfl, Below.refl _ _⟩ | exact ⟨rfl, below_next hbp hbk⟩
set_option maxRecDepth 100000 in
theorem kaccountkey (s : ByteArray) (w : World) (hs : s.size ≤ 9223372036854775807) : Calls Try.prog 19 #[.string s] w (GivesKey w (nameB s) [⟨#[97]⟩, s]) := by
  have hname := fun W => name_any s W hs
  have hsz : nameB s = true → s.size ≤ 100000 := by intro h; unfold nameB at h; have := of_decide_eq_true h; omega
  generalize nameB s = b0 at *
  have Hname := Lib.hid hname
  clear hname
  cases b0
  all_goals
    go_enter Try.func19, Try.ntmps19
    go_wp2_with (first | (go_at_call 22; refine (Hname.out _).mono ?_; rintro e w' ⟨rfl, rfl⟩) | (go_at_call 53; refine (key2 ⟨#[97]⟩ s (by decide) (hsz (by first | trivial | rfl)) _).mono ?_; rintro e wk ⟨rfl, hbk⟩))
    go_ret2
    first | exact ⟨rfl, Below.refl _ _⟩ | exact ⟨rfl, hbk⟩
set_option maxRecDepth 100000 in
theorem rkaccountkey (s : ByteArray) (w : World) (hs : s.size ≤ 9223372036854775807) : Calls Try.prog 20 #[.string s] w (GivesKey w (nameB s) [⟨#[97]⟩, s]) := by
  have hname := fun W => rname_any s W hs
  have hsz : nameB s = true → s.size ≤ 100000 := by intro h; unfold nameB at h; have := of_decide_eq_true h; omega
  generalize nameB s = b0 at *
  have Hname := Lib.hid hname
  clear hname
  cases b0
  all_goals
    go_enter Try.func20, Try.ntmps20
    go_wp2_with (first | (go_at_call 23; refine (Hname.out _).mono ?_; rintro e w' ⟨rfl, rfl⟩) | (go_at_call 54; refine (rmk2 _ ⟨#[97]⟩ s (fun _ => by decide) (fun h => hsz (by first | trivial | exact h | simp at h)) _).mono ?_; rintro e wk ⟨rfl, hbk⟩))
    go_ret2
    exact ⟨rfl, hbk⟩
set_option maxRecDepth 100000 in
theorem kholdkey (s : ByteArray) (n : Int) (w : World) (hs : s.size ≤ 9223372036854775807) : Calls Try.prog 26 #[.string s, .int .i64 n] w (GivesKey w (nameB s && withinB n 0 1099511627776) [⟨#[104]⟩, s, (numS n 8)]) := by
  have hname := fun W => name_any s W hs
  have hseq := fun W => within_any n 0 1099511627776 W
  have htn := fun W => number_one n W
  have hzn := numS_size n 8
  generalize numS n 8 = tn at *
  have hsz : nameB s = true → s.size ≤ 100000 := by intro h; unfold nameB at h; have := of_decide_eq_true h; omega
  generalize nameB s = b0 at *
  generalize withinB n 0 1099511627776 = b1 at *
  have Hname := Lib.hid hname
  have Hseq := Lib.hid hseq
  have Htn := Lib.hid htn
  clear hname hseq htn
  cases b0 <;> cases b1
  all_goals
    go_enter Try.func26, Try.ntmps26
    go_wp2_with (first | (go_at_call 22; refine (Hname.out _).mono ?_; rintro e w' ⟨rfl, rfl⟩) | (go_at_call 52; refine (Hseq.out _).mono ?_; rintro e w' ⟨rfl, rfl⟩) | (go_at_call 56; refine (Htn.out _).mono ?_; rintro e wn ⟨rfl, hbn⟩) | (go_at_call 53; refine (key3 ⟨#[104]⟩ s tn (by decide) (hsz (by first | trivial | rfl)) (by omega) _).mono ?_; rintro e wk ⟨rfl, hbk⟩))
    go_ret2
    first | exact ⟨rfl, Below.refl _ _⟩ | exact ⟨rfl, below_next hbn hbk⟩
set_option maxRecDepth 100000 in
theorem rkholdkey (s : ByteArray) (n : Int) (w : World) (hs : s.size ≤ 9223372036854775807) : Calls Try.prog 27 #[.string s, .int .i64 n] w (GivesKey w (nameB s && withinB n 0 1099511627776) [⟨#[104]⟩, s, (numS n 8)]) := by
  have hname := fun W => rname_any s W hs
  have hseq := fun W => rseq_any n W
  have htn := fun W => rlong_one n W
  have hzn := numS_size n 8
  generalize numS n 8 = tn at *
  have hsz : nameB s = true → s.size ≤ 100000 := by intro h; unfold nameB at h; have := of_decide_eq_true h; omega
  generalize nameB s = b0 at *
  generalize withinB n 0 1099511627776 = b1 at *
  have Hname := Lib.hid hname
  have Hseq := Lib.hid hseq
  have Htn := Lib.hid htn
  clear hname hseq htn
  cases b0 <;> cases b1
  all_goals
    go_enter Try.func27, Try.ntmps27
    go_wp2_with (first | (go_at_call 23; refine (Hname.out _).mono ?_; rintro e w' ⟨rfl, rfl⟩) | (go_at_call 57; refine (Hseq.out _).mono ?_; rintro e w' ⟨rfl, rfl⟩) | (go_at_call 58; refine (Htn.out _).mono ?_; rintro e wn ⟨rfl, hbn⟩) | (go_at_call 54; refine (rmk3 _ ⟨#[104]⟩ s tn (fun _ => by decide) (fun h => hsz (by first | trivial | exact h | simp at h)) (fun _ => by omega) _).mono ?_; rintro e wk ⟨rfl, hbk⟩))
    go_ret2
    exact ⟨rfl, below_next hbn hbk⟩
set_option maxRecDepth 100000 in
theorem kholdskey (s : ByteArray) (w : World) (hs : s.size ≤ 9223372036854775807) : Calls Try.prog 28 #[.string s] w (GivesKey w (nameB s) [⟨#[104]⟩, s]) := by
  have hname := fun W => name_any s W hs
  have hsz : nameB s = true → s.size ≤ 100000 := by intro h; unfold nameB at h; have := of_decide_eq_true h; omega
  generalize nameB s = b0 at *
  have Hname := Lib.hid hname
  clear hname
  cases b0
  all_goals
    go_enter Try.func28, Try.ntmps28
    go_wp2_with (first | (go_at_call 22; refine (Hname.out _).mono ?_; rintro e w' ⟨rfl, rfl⟩) | (go_at_call 53; refine (key2 ⟨#[104]⟩ s (by decide) (hsz (by first | trivial | rfl)) _).mono ?_; rintro e wk ⟨rfl, hbk⟩))
    go_ret2
    first | exact ⟨rfl, Below.refl _ _⟩ | exact ⟨rfl, hbk⟩
set_option maxRecDepth 100000 in
theorem rkholdskey (s : ByteArray) (w : World) (hs : s.size ≤ 9223372036854775807) : Calls Try.prog 29 #[.string s] w (GivesKey w (nameB s) [⟨#[104]⟩, s]) := by
  have hname := fun W => rname_any s W hs
  have hsz : nameB s = true → s.size ≤ 100000 := by intro h; unfold nameB at h; have := of_decide_eq_true h; omega
  generalize nameB s = b0 at *
  have Hname := Lib.hid hname
  clear hname
  cases b0
  all_goals
    go_enter Try.func29, Try.ntmps29
    go_wp2_with (first | (go_at_call 23; refine (Hname.out _).mono ?_; rintro e w' ⟨rfl, rfl⟩) | (go_at_call 54; refine (rmk2 _ ⟨#[104]⟩ s (fun _ => by decide) (fun h => hsz (by first | trivial | exact h | simp at h)) _).mono ?_; rintro e wk ⟨rfl, hbk⟩))
    go_ret2
    exact ⟨rfl, hbk⟩
set_option maxRecDepth 100000 in
theorem koutkey (p : Int) (n : Int) (w : World)  : Calls Try.prog 30 #[.int .i64 p, .int .i64 n] w (GivesKey w (withinB p 1 15 && withinB n 0 1099511627776) [⟨#[111]⟩, (numS p 1), (numS n 8)]) := by
  have hpeer := fun W => ispeer_any p W
  have hseq := fun W => within_any n 0 1099511627776 W
  have htp := fun W => peertext_one p W
  have hzp := numS_size p 1
  generalize numS p 1 = tp at *
  have htn := fun W => number_one n W
  have hzn := numS_size n 8
  generalize numS n 8 = tn at *
  generalize withinB p 1 15 = b0 at *
  generalize withinB n 0 1099511627776 = b1 at *
  have Hpeer := Lib.hid hpeer
  have Hseq := Lib.hid hseq
  have Htp := Lib.hid htp
  have Htn := Lib.hid htn
  clear hpeer hseq htp htn
  cases b0 <;> cases b1
  all_goals
    go_enter Try.func30, Try.ntmps30
    go_wp2_with (first | (go_at_call 59; refine (Hpeer.out _).mono ?_; rintro e w' ⟨rfl, rfl⟩) | (go_at_call 52; refine (Hseq.out _).mono ?_; rintro e w' ⟨rfl, rfl⟩) | (go_at_call 60; refine (Htp.out _).mono ?_; rintro e wp ⟨rfl, hbp⟩) | (go_at_call 56; refine (Htn.out _).mono ?_; rintro e wn ⟨rfl, hbn⟩) | (go_at_call 53; refine (key3 ⟨#[111]⟩ tp tn (by decide) (by omega) (by omega) _).mono ?_; rintro e wk ⟨rfl, hbk⟩))
    go_ret2
    first | exact ⟨rfl, Below.refl _ _⟩ | exact ⟨rfl, below_next hbp (below_next hbn hbk)⟩
set_option maxRecDepth 100000 in
theorem rkoutkey (p : Int) (n : Int) (w : World)  : Calls Try.prog 31 #[.int .i64 p, .int .i64 n] w (GivesKey w (withinB p 1 15 && withinB n 0 1099511627776) [⟨#[111]⟩, (numS p 1), (numS n 8)]) := by
  have hpeer := fun W => rpeer_any p W
  have hseq := fun W => rseq_any n W
  have htp := fun W => rbyte_one p W
  have hzp := numS_size p 1
  generalize numS p 1 = tp at *
  have htn := fun W => rlong_one n W
  have hzn := numS_size n 8
  generalize numS n 8 = tn at *
  generalize withinB p 1 15 = b0 at *
  generalize withinB n 0 1099511627776 = b1 at *
  have Hpeer := Lib.hid hpeer
  have Hseq := Lib.hid hseq
  have Htp := Lib.hid htp
  have Htn := Lib.hid htn
  clear hpeer hseq htp htn
  cases b0 <;> cases b1
  all_goals
    go_enter Try.func31, Try.ntmps31
    go_wp2_with (first | (go_at_call 61; refine (Hpeer.out _).mono ?_; rintro e w' ⟨rfl, rfl⟩) | (go_at_call 57; refine (Hseq.out _).mono ?_; rintro e w' ⟨rfl, rfl⟩) | (go_at_call 62; refine (Htp.out _).mono ?_; rintro e wp ⟨rfl, hbp⟩) | (go_at_call 58; refine (Htn.out _).mono ?_; rintro e wn ⟨rfl, hbn⟩) | (go_at_call 54; refine (rmk3 _ ⟨#[111]⟩ tp tn (fun _ => by decide) (fun _ => by omega) (fun _ => by omega) _).mono ?_; rintro e wk ⟨rfl, hbk⟩))
    go_ret2
    exact ⟨rfl, below_next hbp (below_next hbn hbk)⟩
set_option maxRecDepth 100000 in
theorem koutskey (p : Int) (w : World) : Calls Try.prog 32 #[.int .i64 p] w (GivesKey w (withinB p 1 15) [⟨#[111]⟩, (numS p 1)]) := by
  have hk := fun W => peerkey_any ⟨#[111]⟩ p W (by decide)
  unfold GivesKey at *
  generalize mkS (withinB p 1 15) [⟨#[111]⟩, (numS p 1)] = a at *
  generalize mkE (withinB p 1 15) = c at *
  have Hk := Lib.hid hk
  clear hk
  go_enter Try.func32, Try.ntmps32
  go_wp2_with (first | (go_at_call 63; refine (Hk.out _).mono ?_; rintro e wk ⟨rfl, hbk⟩))
  go_ret2
  exact ⟨rfl, hbk⟩
set_option maxRecDepth 100000 in
theorem rkoutskey (p : Int) (w : World)  : Calls Try.prog 33 #[.int .i64 p] w (GivesKey w (withinB p 1 15) [⟨#[111]⟩, (numS p 1)]) := by
  have hpeer := fun W => rpeer_any p W
  have htp := fun W => rbyte_one p W
  have hzp := numS_size p 1
  generalize numS p 1 = tp at *
  generalize withinB p 1 15 = b0 at *
  have Hpeer := Lib.hid hpeer
  have Htp := Lib.hid htp
  clear hpeer htp
  cases b0
  all_goals
    go_enter Try.func33, Try.ntmps33
    go_wp2_with (first | (go_at_call 61; refine (Hpeer.out _).mono ?_; rintro e w' ⟨rfl, rfl⟩) | (go_at_call 62; refine (Htp.out _).mono ?_; rintro e wp ⟨rfl, hbp⟩) | (go_at_call 54; refine (rmk2 _ ⟨#[111]⟩ tp (fun _ => by decide) (fun _ => by omega) _).mono ?_; rintro e wk ⟨rfl, hbk⟩))
    go_ret2
    exact ⟨rfl, below_next hbp hbk⟩
set_option maxRecDepth 100000 in
theorem knextkey (p : Int) (w : World) : Calls Try.prog 34 #[.int .i64 p] w (GivesKey w (withinB p 1 15) [⟨#[110]⟩, (numS p 1)]) := by
  have hk := fun W => peerkey_any ⟨#[110]⟩ p W (by decide)
  unfold GivesKey at *
  generalize mkS (withinB p 1 15) [⟨#[110]⟩, (numS p 1)] = a at *
  generalize mkE (withinB p 1 15) = c at *
  have Hk := Lib.hid hk
  clear hk
  go_enter Try.func34, Try.ntmps34
  go_wp2_with (first | (go_at_call 63; refine (Hk.out _).mono ?_; rintro e wk ⟨rfl, hbk⟩))
  go_ret2
  exact ⟨rfl, hbk⟩
set_option maxRecDepth 100000 in
theorem rknextkey (p : Int) (w : World)  : Calls Try.prog 35 #[.int .i64 p] w (GivesKey w (withinB p 1 15) [⟨#[110]⟩, (numS p 1)]) := by
  have hpeer := fun W => rpeer_any p W
  have htp := fun W => rbyte_one p W
  have hzp := numS_size p 1
  generalize numS p 1 = tp at *
  generalize withinB p 1 15 = b0 at *
  have Hpeer := Lib.hid hpeer
  have Htp := Lib.hid htp
  clear hpeer htp
  cases b0
  all_goals
    go_enter Try.func35, Try.ntmps35
    go_wp2_with (first | (go_at_call 61; refine (Hpeer.out _).mono ?_; rintro e w' ⟨rfl, rfl⟩) | (go_at_call 62; refine (Htp.out _).mono ?_; rintro e wp ⟨rfl, hbp⟩) | (go_at_call 54; refine (rmk2 _ ⟨#[110]⟩ tp (fun _ => by decide) (fun _ => by omega) _).mono ?_; rintro e wk ⟨rfl, hbk⟩))
    go_ret2
    exact ⟨rfl, below_next hbp hbk⟩
set_option maxRecDepth 100000 in
theorem kinboxkey (p : Int) (w : World) : Calls Try.prog 36 #[.int .i64 p] w (GivesKey w (withinB p 1 15) [⟨#[105]⟩, (numS p 1)]) := by
  have hk := fun W => peerkey_any ⟨#[105]⟩ p W (by decide)
  unfold GivesKey at *
  generalize mkS (withinB p 1 15) [⟨#[105]⟩, (numS p 1)] = a at *
  generalize mkE (withinB p 1 15) = c at *
  have Hk := Lib.hid hk
  clear hk
  go_enter Try.func36, Try.ntmps36
  go_wp2_with (first | (go_at_call 63; refine (Hk.out _).mono ?_; rintro e wk ⟨rfl, hbk⟩))
  go_ret2
  exact ⟨rfl, hbk⟩
set_option maxRecDepth 100000 in
theorem rkinboxkey (p : Int) (w : World)  : Calls Try.prog 37 #[.int .i64 p] w (GivesKey w (withinB p 1 15) [⟨#[105]⟩, (numS p 1)]) := by
  have hpeer := fun W => rpeer_any p W
  have htp := fun W => rbyte_one p W
  have hzp := numS_size p 1
  generalize numS p 1 = tp at *
  generalize withinB p 1 15 = b0 at *
  have Hpeer := Lib.hid hpeer
  have Htp := Lib.hid htp
  clear hpeer htp
  cases b0
  all_goals
    go_enter Try.func37, Try.ntmps37
    go_wp2_with (first | (go_at_call 61; refine (Hpeer.out _).mono ?_; rintro e w' ⟨rfl, rfl⟩) | (go_at_call 62; refine (Htp.out _).mono ?_; rintro e wp ⟨rfl, hbp⟩) | (go_at_call 54; refine (rmk2 _ ⟨#[105]⟩ tp (fun _ => by decide) (fun _ => by omega) _).mono ?_; rintro e wk ⟨rfl, hbk⟩))
    go_ret2
    exact ⟨rfl, below_next hbp hbk⟩
set_option maxRecDepth 100000 in
theorem kclockkey (w : World) : Calls Try.prog 24 #[] w fun e w' => e = .returned (.string (str (Cd.keyOf [⟨#[116]⟩]))) ∧ Below w.heap.size w w' := by
  go_enter Try.func24, Try.ntmps24
  go_wp2_with (first | (go_at_call 53; refine (key1 ⟨#[116]⟩ (by decide) _).mono ?_; rintro e wk ⟨rfl, hbk⟩))
  go_ret
  exact ⟨rfl, hbk⟩
set_option maxRecDepth 100000 in
theorem rkclockkey (w : World) : Calls Try.prog 25 #[] w fun e w' => e = .returned (.string (str (Cd.keyOf [⟨#[116]⟩]))) ∧ Below w.heap.size w w' := by
  go_enter Try.func25, Try.ntmps25
  go_wp2_with (first | (go_at_call 55; refine (rkey1 ⟨#[116]⟩ (by decide) _).mono ?_; rintro e wk ⟨rfl, hbk⟩))
  go_ret
  exact ⟨rfl, hbk⟩
end Go.Proofs.Ytaoiokilnmpniaa
