/- What outbox's NumBytes, InboxBytes, isIntent, IntentBytes and the document's, return. -/
import Derived.Test.YtaoiokilnmpniaaBoxAwake
import Derived.Test.YtaoiokilnmpniaaInBox
import Derived.Test.YtaoiokilnmpniaaStepB
namespace Go.Proofs.Ytaoiokilnmpniaa
open Go.RowKit
set_option linter.unusedVariables false
theorem step_appD {w : World} {base n cap : Nat} {A : Option Addr} {l : List Nat} {ops : Array Oper} {o : Oper} {a : Act} {K : Act → World → Prop} {Q : Exit → Act → World → Prop} {E : Prop} (hw : Region.wanted o (yielded ops a.tmps) = true) (s x : Operand) (d : Tmp) (hdst : o.dst = some d)
    (ho : o.op = .call { callee := .builtin .append, args := #[s, x], argTypes := #[59, 59] })
    (hs : a.eval s = .slice A n cap) (hown : Own w base A n cap l) (B : Option Addr) (m c : Nat) (news : List Nat) (hx : a.eval x = .slice B m c) (hr : Rd w B m news) (hlen : n + m ≤ 100000000) (hbase : base ≤ w.heap.size)
    (h : ∀ A' cap' w', Grew w w' base A A' n cap (n + m) cap' (l ++ news) → K (a.put (some d) (.slice A' (n + m) cap')) w') :
    if Region.wanted o (yielded ops a.tmps) = true then Oper.wp Try.prog o a w K Q else E :=
  step_appB hw s x ho hs hown B m c news hx hr hlen hbase (by rw [hdst]; exact h)
/-- Bytes and an error, as a call returns them. -/
def GivesRow (w : World) (l : List Nat) (c : Int) (e : Ending) (w' : World) : Prop :=
  ∃ A cap, e = .returned (.tuple #[.slice A l.length cap, .int .i64 c]) ∧ Rd w' A l.length l ∧ l.length ≤ cap ∧ Below w.heap.size w w'
namespace Ob
def bad (b : Bool) : Int := if b then 0 else 215
def numBs (n : Int) : List Nat := if withinB n 0 1099511627776 then Cd.num n.toNat else []
def boxBs (f : Int) (m : Nat) : List Nat := if Ob.isB f m then Cd.num f.toNat ++ Cd.num m else []
def isI (s : ByteArray) (n : Int) : Bool := nameB s && withinB n 1 1125899906842624
def intentBs (s : ByteArray) (n : Int) : List Nat := if isI s n then Cd.text s ++ Cd.num n.toNat else []
end Ob
set_option maxRecDepth 100000 in
theorem numbytes_any (n : Int) (w : World) : Calls Try.prog 40 #[.int .i64 n] w (GivesRow w (Ob.numBs n) (Ob.bad (withinB n 0 1099511627776))) := by
  have hw := fun W => within_any n 0 1099511627776 W
  cases hk : withinB n 0 1099511627776
  · rw [show Ob.numBs n = [] by unfold Ob.numBs; rw [hk]; rfl]
    rw [hk] at hw
    have Hw := Lib.hid hw
    clear hw hk
    go_enter Try.func40, Try.ntmps40
    go_wp2_with (first | (go_at_call 52; refine (Hw.out _).mono ?_; rintro e w' ⟨rfl, rfl⟩))
    go_ret2
    exact ⟨none, 0, rfl, Rd.nil _ _, Nat.le_refl _, Below.refl _ _⟩
  · rw [show Ob.numBs n = Cd.num n.toNat by unfold Ob.numBs; rw [hk]; rfl]
    obtain ⟨k1, k2⟩ := of_decide_eq_true (show decide (0 ≤ n ∧ n ≤ 1099511627776) = true from hk)
    obtain ⟨a, rfl⟩ := Int.eq_ofNat_of_zero_le k1
    simp only [Int.toNat_natCast]
    have hw1 : IntKind.u64.wrap (a : Int) = (a : Int) := by rw [IntKind.wrap_u64]; omega
    have hn := fun W => num_any a (by omega) W
    rw [hk] at hw
    have Hw := Lib.hid hw
    have Hn := Lib.hid hn
    clear hw hk hn k1
    go_enter Try.func40, Try.ntmps40
    go_wp2_with (first | (go_at_call 52; refine (Hw.out _).mono ?_; rintro e w' ⟨rfl, rfl⟩))
    refine (Hn.out _).mono ?_
    rintro e v1 ⟨A1, c1, rfl, ho1, hb1⟩
    go_wp2_with fail
    go_ret2
    exact ⟨A1, c1, rfl, ho1.rd, ho1.cap, hb1⟩
set_option maxRecDepth 100000 in
theorem rnumbytes_any (n : Int) (w : World) : Calls Try.prog 41 #[.int .i64 n] w (GivesRow w (Ob.numBs n) (Ob.bad (withinB n 0 1099511627776))) := by
  have hw := fun W => rseq_any n W
  cases hk : withinB n 0 1099511627776
  · rw [show Ob.numBs n = [] by unfold Ob.numBs; rw [hk]; rfl]
    rw [hk] at hw
    have Hw := Lib.hid hw
    clear hw hk
    go_enter Try.func41, Try.ntmps41
    go_wp2_with (first | (go_at_call 57; refine (Hw.out _).mono ?_; rintro e w' ⟨rfl, rfl⟩))
    go_ret2
    exact ⟨none, 0, rfl, Rd.nil _ _, Nat.le_refl _, Below.refl _ _⟩
  · rw [show Ob.numBs n = Cd.num n.toNat by unfold Ob.numBs; rw [hk]; rfl]
    obtain ⟨k1, k2⟩ := of_decide_eq_true (show decide (0 ≤ n ∧ n ≤ 1099511627776) = true from hk)
    obtain ⟨a, rfl⟩ := Int.eq_ofNat_of_zero_le k1
    simp only [Int.toNat_natCast]
    have hw1 : IntKind.u64.wrap (a : Int) = (a : Int) := by rw [IntKind.wrap_u64]; omega
    have hn := fun W => rnum_any a (by omega) W
    rw [hk] at hw
    have Hw := Lib.hid hw
    have Hn := Lib.hid hn
    clear hw hk hn k1
    go_enter Try.func41, Try.ntmps41
    go_wp2_with (first | (go_at_call 57; refine (Hw.out _).mono ?_; rintro e w' ⟨rfl, rfl⟩))
    refine (Hn.out _).mono ?_
    rintro e v1 ⟨A1, c1, rfl, ho1, hb1⟩
    go_wp2_with fail
    go_ret2
    exact ⟨A1, c1, rfl, ho1.rd, ho1.cap, hb1⟩
set_option maxRecDepth 100000 in
theorem isintent_any (s : ByteArray) (n : Int) (w : World) (hs : s.size ≤ 9223372036854775807) :
    Calls Try.prog 71 #[intentV s n] w fun e w' => e = .returned (.bool (Ob.isI s n)) ∧ w.alloc (.cells #[.string s, .int .i64 n] 58) = w' := by
  have hn := fun W => name_any s W hs
  have hw := fun W => within_any n 1 1125899906842624 W
  unfold intentV Ob.isI
  generalize withinB n 1 1125899906842624 = b at *
  cases hk : nameB s
  all_goals
    rw [hk] at hn
    have Hn := Lib.hid hn
    have Hw := Lib.hid hw
    clear hn hw hk
    go_enter Try.func71, Try.ntmps71
    go_wp2_with (first | (go_at_call 22; refine (Hn.out _).mono ?_; rintro e w' ⟨rfl, rfl⟩) | (go_at_call 52; refine (Hw.out _).mono ?_; rintro e w' ⟨rfl, rfl⟩))
    go_ret
    exact ⟨rfl, rfl⟩
set_option maxRecDepth 100000 in
set_option maxHeartbeats 1000000 in
theorem inboxbytes_any (f : Int) (m : Nat) (w : World) (hm : m < 18446744073709551616) : Calls Try.prog 42 #[boxV f m] w (GivesRow w (Ob.boxBs f m) (chkB f m)) := by
  have hck := fun W => checkbox_any f m W hm
  unfold boxV at hck ⊢
  cases hk : Ob.isB f m
  · rw [show Ob.boxBs f m = [] by unfold Ob.boxBs; rw [hk]; rfl]
    rw [show chkB f m = 215 by unfold chkB; rw [hk]; rfl] at hck ⊢
    have Hck := Lib.hid hck
    clear hck hk
    go_enter Try.func42, Try.ntmps42
    go_wp2_with (first | (go_at_call 14; refine (Hck.out _).mono ?_; rintro e w' ⟨rfl, rfl⟩))
    go_ret2
    exact ⟨none, 0, rfl, Rd.nil _ _, Nat.le_refl _, ((Below.refl _ _).alloc (Nat.le_refl _) _).alloc (by simp) _⟩
  · rw [show Ob.boxBs f m = Cd.num f.toNat ++ Cd.num m by unfold Ob.boxBs; rw [hk]; rfl]
    rw [show chkB f m = 0 by unfold chkB; rw [hk]; rfl] at hck ⊢
    obtain ⟨k1, k2, k3⟩ := Ob.isB_iff.1 hk
    obtain ⟨a, rfl⟩ := Int.eq_ofNat_of_zero_le k1
    simp only [Int.toNat_natCast]
    have hl : (Cd.num a).length + (Cd.num m).length ≤ 22 := by have := Cd.num_length a; have := Cd.num_length m; omega
    have hw1 : IntKind.u64.wrap (a : Int) = (a : Int) := by rw [IntKind.wrap_u64]; omega
    have hna := fun w' => num_any a (by omega) w'
    have hnb := fun w' => num_any m hm w'
    have Hck := Lib.hid hck
    have Ha := Lib.hid hna
    have Hb := Lib.hid hnb
    clear hck hk k1 k3 hna hnb
    go_enter Try.func42, Try.ntmps42
    go_wp2_with (first | (go_at_call 14; refine (Hck.out _).mono ?_; rintro e w' ⟨rfl, rfl⟩))
    generalize Cd.num a = la at *
    generalize Cd.num m = lb at *
    have hA := (Holds.new w #[.int .i64 (a : Int), .int .u64 (m : Int)] 24).alloc (.cells #[.int .i64 (a : Int), .int .u64 (m : Int)] 24)
    have hx : Below w.heap.size w ((w.alloc (.cells #[.int .i64 (a : Int), .int .u64 (m : Int)] 24)).alloc (.cells #[.int .i64 (a : Int), .int .u64 (m : Int)] 24)) := ((Below.refl _ _).alloc (Nat.le_refl _) _).alloc (by simp) _
    generalize (w.alloc (.cells #[.int .i64 (a : Int), .int .u64 (m : Int)] 24)).alloc (.cells #[.int .i64 (a : Int), .int .u64 (m : Int)] 24) = w0 at *
    have La : ∀ wx : World, Below w0.heap.size w0 wx → wx.cell? ⟨w.heap.size, 0, none⟩ = some (.int .i64 (a : Int)) := fun wx h => (hA.below h).at_ 0 rfl
    have La1 : ∀ wx : World, Below w0.heap.size w0 wx → wx.cell? ⟨w.heap.size, 1, none⟩ = some (.int .u64 (m : Int)) := fun wx h => (hA.below h).at_ 1 rfl
    have hd : Below w0.heap.size w0 w0.drew := (Below.refl _ _).drew
    go_region_held_law (fun w' => Below w0.heap.size w0 w') (first | exact hd | exact hc4 | exact hc5 | exact hc6) (first | (go_at_call 69; ((with_reducible refine (Ha.out _).mono ?_); rintro e v4 ⟨A4, c4, rfl, ho4, hb4⟩; have hc4 : Below w0.heap.size w0 v4 := below_next (by assumption) hb4)) | (go_at_call 69; ((with_reducible refine (Hb.out _).mono ?_); rintro e v5 ⟨A5, c5, rfl, ho5, hb5⟩; have hc5 : Below w0.heap.size w0 v5 := below_next (by assumption) hb5; have ho4' := ho4.below hb5; have hz5 := hb5.size)) | (refine step_appD (by simp [Region.wanted]) (.tmp 13) (.tmp 16) 17 rfl rfl rfl ho4' A5 lb.length c5 lb rfl ho5.rd (by omega) (Nat.le_trans hb4.size hz5) ?_; intro A6 c6 v6 hg6; have hb6 := hg6.below (hb4.trans (hb5.mono hb4.size)) (Nat.le_trans hb4.size hz5) (fun g hg => (ho4'.blk g hg).1); have hc6 : Below w0.heap.size w0 v6 := below_next hd (hb6.mono (by exact Nat.le_refl _)); have ho6 := hg6.own))
    have hx6 := below_next hx hc6
    clear La La1 hd
    go_wp2
    go_ret2
    refine ⟨A6, c6, ?_, ?_, ?_, hx6⟩
    · rw [List.length_append]; rfl
    · rw [List.length_append]; exact ho6.rd
    · rw [List.length_append]; exact ho6.cap
set_option maxRecDepth 100000 in
set_option maxHeartbeats 1000000 in
theorem rinboxbytes_any (f : Int) (m : Nat) (w : World) (hm : m < 18446744073709551616) : Calls Try.prog 43 #[boxV f m] w (GivesRow w (Ob.boxBs f m) (chkB f m)) := by
  have hck := fun W => isbox_any f m W hm
  unfold boxV at hck ⊢
  cases hk : Ob.isB f m
  · rw [show Ob.boxBs f m = [] by unfold Ob.boxBs; rw [hk]; rfl]
    rw [show chkB f m = 215 by unfold chkB; rw [hk]; rfl]
    rw [hk] at hck
    have Hck := Lib.hid hck
    clear hck hk
    go_enter Try.func43, Try.ntmps43
    go_wp2_with (first | (go_at_call 17; refine (Hck.out _).mono ?_; rintro e w' ⟨rfl, rfl⟩))
    go_ret2
    exact ⟨none, 0, rfl, Rd.nil _ _, Nat.le_refl _, ((Below.refl _ _).alloc (Nat.le_refl _) _).alloc (by simp) _⟩
  · rw [show Ob.boxBs f m = Cd.num f.toNat ++ Cd.num m by unfold Ob.boxBs; rw [hk]; rfl]
    rw [show chkB f m = 0 by unfold chkB; rw [hk]; rfl]
    rw [hk] at hck
    obtain ⟨k1, k2, k3⟩ := Ob.isB_iff.1 hk
    obtain ⟨a, rfl⟩ := Int.eq_ofNat_of_zero_le k1
    simp only [Int.toNat_natCast]
    have hl : (Cd.num a).length + (Cd.num m).length ≤ 22 := by have := Cd.num_length a; have := Cd.num_length m; omega
    have hw1 : IntKind.u64.wrap (a : Int) = (a : Int) := by rw [IntKind.wrap_u64]; omega
    have hna := fun w' => rnum_any a (by omega) w'
    have hnb := fun w' => rnum_any m hm w'
    have Hck := Lib.hid hck
    have Ha := Lib.hid hna
    have Hb := Lib.hid hnb
    clear hck hk k1 k3 hna hnb
    go_enter Try.func43, Try.ntmps43
    go_wp2_with (first | (go_at_call 17; refine (Hck.out _).mono ?_; rintro e w' ⟨rfl, rfl⟩))
    generalize Cd.num a = la at *
    generalize Cd.num m = lb at *
    have hA := (Holds.new w #[.int .i64 (a : Int), .int .u64 (m : Int)] 24).alloc (.cells #[.int .i64 (a : Int), .int .u64 (m : Int)] 24)
    have hx : Below w.heap.size w ((w.alloc (.cells #[.int .i64 (a : Int), .int .u64 (m : Int)] 24)).alloc (.cells #[.int .i64 (a : Int), .int .u64 (m : Int)] 24)) := ((Below.refl _ _).alloc (Nat.le_refl _) _).alloc (by simp) _
    generalize (w.alloc (.cells #[.int .i64 (a : Int), .int .u64 (m : Int)] 24)).alloc (.cells #[.int .i64 (a : Int), .int .u64 (m : Int)] 24) = w0 at *
    have La : ∀ wx : World, Below w0.heap.size w0 wx → wx.cell? ⟨w.heap.size, 0, none⟩ = some (.int .i64 (a : Int)) := fun wx h => (hA.below h).at_ 0 rfl
    have La1 : ∀ wx : World, Below w0.heap.size w0 wx → wx.cell? ⟨w.heap.size, 1, none⟩ = some (.int .u64 (m : Int)) := fun wx h => (hA.below h).at_ 1 rfl
    have hd : Below w0.heap.size w0 w0.drew := (Below.refl _ _).drew
    go_region_held_law (fun w' => Below w0.heap.size w0 w') (first | exact hd | exact hc4 | exact hc5 | exact hc6) (first | (go_at_call 70; ((with_reducible refine (Ha.out _).mono ?_); rintro e v4 ⟨A4, c4, rfl, ho4, hb4⟩; have hc4 : Below w0.heap.size w0 v4 := below_next (by assumption) hb4)) | (go_at_call 70; ((with_reducible refine (Hb.out _).mono ?_); rintro e v5 ⟨A5, c5, rfl, ho5, hb5⟩; have hc5 : Below w0.heap.size w0 v5 := below_next (by assumption) hb5; have ho4' := ho4.below hb5; have hz5 := hb5.size)) | (refine step_appD (by simp [Region.wanted]) (.tmp 10) (.tmp 13) 14 rfl rfl rfl ho4' A5 lb.length c5 lb rfl ho5.rd (by omega) (Nat.le_trans hb4.size hz5) ?_; intro A6 c6 v6 hg6; have hb6 := hg6.below (hb4.trans (hb5.mono hb4.size)) (Nat.le_trans hb4.size hz5) (fun g hg => (ho4'.blk g hg).1); have hc6 : Below w0.heap.size w0 v6 := below_next hd (hb6.mono (by exact Nat.le_refl _)); have ho6 := hg6.own))
    have hx6 := below_next hx hc6
    clear La La1 hd
    go_wp2
    go_ret2
    refine ⟨A6, c6, ?_, ?_, ?_, hx6⟩
    · rw [List.length_append]; rfl
    · rw [List.length_append]; exact ho6.rd
    · rw [List.length_append]; exact ho6.cap
set_option maxRecDepth 100000 in
set_option maxHeartbeats 1000000 in
theorem intentbytes_any (s : ByteArray) (n : Int) (w : World) (hs : s.size ≤ 1000) : Calls Try.prog 44 #[intentV s n] w (GivesRow w (Ob.intentBs s n) (Ob.bad (Ob.isI s n))) := by
  have hck := fun W => isintent_any s n W (by omega)
  unfold intentV at hck ⊢
  cases hk : Ob.isI s n
  · rw [show Ob.intentBs s n = [] by unfold Ob.intentBs; rw [hk]; rfl]
    rw [hk] at hck
    have Hck := Lib.hid hck
    clear hck hk
    go_enter Try.func44, Try.ntmps44
    go_wp2_with (first | (go_at_call 71; refine (Hck.out _).mono ?_; rintro e w' ⟨rfl, rfl⟩))
    go_ret2
    exact ⟨none, 0, rfl, Rd.nil _ _, Nat.le_refl _, ((Below.refl _ _).alloc (Nat.le_refl _) _).alloc (by simp) _⟩
  · rw [show Ob.intentBs s n = Cd.text s ++ Cd.num n.toNat by unfold Ob.intentBs; rw [hk]; rfl]
    have hk0 := hk
    unfold Ob.isI at hk0
    rw [Bool.and_eq_true] at hk0
    obtain ⟨q1, q2⟩ := hk0
    obtain ⟨k1, k2⟩ := of_decide_eq_true (show decide (1 ≤ n ∧ n ≤ 1125899906842624) = true from q2)
    obtain ⟨a, rfl⟩ := Int.eq_ofNat_of_zero_le (show 0 ≤ n by omega)
    simp only [Int.toNat_natCast]
    have hl : (Cd.text s).length + (Cd.num a).length ≤ 10000 := by
      have h1 := Cd.num_length a
      have h2 := Cd.num_length s.size
      have h3 : (Cd.text s).length = (Cd.num s.size).length + s.size := by unfold Cd.text; rw [List.length_append, bs_length]
      omega
    have hw1 : IntKind.u64.wrap (a : Int) = (a : Int) := by rw [IntKind.wrap_u64]; omega
    have hna := fun w' => text_any s (by omega) w'
    have hnb := fun w' => num_any a (by omega) w'
    rw [hk] at hck
    have Hck := Lib.hid hck
    have Ha := Lib.hid hna
    have Hb := Lib.hid hnb
    clear hck hk hna hnb q1 q2
    go_enter Try.func44, Try.ntmps44
    go_wp2_with (first | (go_at_call 71; refine (Hck.out _).mono ?_; rintro e w' ⟨rfl, rfl⟩))
    generalize Cd.text s = la at *
    generalize Cd.num a = lb at *
    have hA := (Holds.new w #[.string s, .int .i64 (a : Int)] 58).alloc (.cells #[.string s, .int .i64 (a : Int)] 58)
    have hx : Below w.heap.size w ((w.alloc (.cells #[.string s, .int .i64 (a : Int)] 58)).alloc (.cells #[.string s, .int .i64 (a : Int)] 58)) := ((Below.refl _ _).alloc (Nat.le_refl _) _).alloc (by simp) _
    generalize (w.alloc (.cells #[.string s, .int .i64 (a : Int)] 58)).alloc (.cells #[.string s, .int .i64 (a : Int)] 58) = w0 at *
    have La : ∀ wx : World, Below w0.heap.size w0 wx → wx.cell? ⟨w.heap.size, 0, none⟩ = some (.string s) := fun wx h => (hA.below h).at_ 0 rfl
    have La1 : ∀ wx : World, Below w0.heap.size w0 wx → wx.cell? ⟨w.heap.size, 1, none⟩ = some (.int .i64 (a : Int)) := fun wx h => (hA.below h).at_ 1 rfl
    have hd : Below w0.heap.size w0 w0.drew := (Below.refl _ _).drew
    go_region_held_law (fun w' => Below w0.heap.size w0 w') (first | exact hd | exact hc4 | exact hc5 | exact hc6) (first | (go_at_call 72; ((with_reducible refine (Ha.out _).mono ?_); rintro e v4 ⟨A4, c4, rfl, ho4, hb4⟩; have hc4 : Below w0.heap.size w0 v4 := below_next (by assumption) hb4)) | (go_at_call 69; ((with_reducible refine (Hb.out _).mono ?_); rintro e v5 ⟨A5, c5, rfl, ho5, hb5⟩; have hc5 : Below w0.heap.size w0 v5 := below_next (by assumption) hb5; have ho4' := ho4.below hb5; have hz5 := hb5.size)) | (refine step_appD (by simp [Region.wanted]) (.tmp 9) (.tmp 13) 14 rfl rfl rfl ho4' A5 lb.length c5 lb rfl ho5.rd (by omega) (Nat.le_trans hb4.size hz5) ?_; intro A6 c6 v6 hg6; have hb6 := hg6.below (hb4.trans (hb5.mono hb4.size)) (Nat.le_trans hb4.size hz5) (fun g hg => (ho4'.blk g hg).1); have hc6 : Below w0.heap.size w0 v6 := below_next hd (hb6.mono (by exact Nat.le_refl _)); have ho6 := hg6.own))
    have hx6 := below_next hx hc6
    clear La La1 hd
    go_wp2
    go_ret2
    refine ⟨A6, c6, ?_, ?_, ?_, hx6⟩
    · rw [List.length_append]; rfl
    · rw [List.length_append]; exact ho6.rd
    · rw [List.length_append]; exact ho6.cap
set_option maxRecDepth 100000 in
set_option maxHeartbeats 1000000 in
theorem rintentbytes_any (s : ByteArray) (n : Int) (w : World) (hs : s.size ≤ 1000) : Calls Try.prog 45 #[intentV s n] w (GivesRow w (Ob.intentBs s n) (Ob.bad (Ob.isI s n))) := by
  have hck := fun W => rname_any s W (by omega)
  unfold intentV
  cases hk : Ob.isI s n
  · rw [show Ob.intentBs s n = [] by unfold Ob.intentBs; rw [hk]; rfl]
    cases hq : nameB s
    · rw [hq] at hck
      have Hck := Lib.hid hck
      clear hck hk hq
      go_enter Try.func45, Try.ntmps45
      go_wp2_with (first | (go_at_call 23; refine (Hck.out _).mono ?_; rintro e w' ⟨rfl, rfl⟩))
      go_ret2
      exact ⟨none, 0, rfl, Rd.nil _ _, Nat.le_refl _, (Below.refl _ _).alloc (Nat.le_refl _) _⟩
    · rw [hq] at hck
      have hk2 : withinB n 1 1125899906842624 = false := by unfold Ob.isI at hk; rw [hq] at hk; exact hk
      have hk3 := of_decide_eq_false (show decide (1 ≤ n ∧ n ≤ 1125899906842624) = false from hk2)
      have Hck := Lib.hid hck
      clear hck hk hq hk2
      by_cases h1 : n < 1
      · clear hk3
        go_enter Try.func45, Try.ntmps45
        go_wp2_with (first | (go_at_call 23; refine (Hck.out _).mono ?_; rintro e w' ⟨rfl, rfl⟩))
        go_ret2
        exact ⟨none, 0, rfl, Rd.nil _ _, Nat.le_refl _, (Below.refl _ _).alloc (Nat.le_refl _) _⟩
      · have h2 : 1125899906842624 < n := by omega
        clear hk3
        go_enter Try.func45, Try.ntmps45
        go_wp2_with (first | (go_at_call 23; refine (Hck.out _).mono ?_; rintro e w' ⟨rfl, rfl⟩))
        go_ret2
        exact ⟨none, 0, rfl, Rd.nil _ _, Nat.le_refl _, (Below.refl _ _).alloc (Nat.le_refl _) _⟩
  · rw [show Ob.intentBs s n = Cd.text s ++ Cd.num n.toNat by unfold Ob.intentBs; rw [hk]; rfl]
    have hk0 := hk
    unfold Ob.isI at hk0
    rw [Bool.and_eq_true] at hk0
    obtain ⟨q1, q2⟩ := hk0
    obtain ⟨k1, k2⟩ := of_decide_eq_true (show decide (1 ≤ n ∧ n ≤ 1125899906842624) = true from q2)
    obtain ⟨a, rfl⟩ := Int.eq_ofNat_of_zero_le (show 0 ≤ n by omega)
    simp only [Int.toNat_natCast]
    have hl : (Cd.text s).length + (Cd.num a).length ≤ 10000 := by
      have h1 := Cd.num_length a
      have h2 := Cd.num_length s.size
      have h3 : (Cd.text s).length = (Cd.num s.size).length + s.size := by unfold Cd.text; rw [List.length_append, bs_length]
      omega
    have hw1 : IntKind.u64.wrap (a : Int) = (a : Int) := by rw [IntKind.wrap_u64]; omega
    have hna := fun w' => rtext_any s (by omega) w'
    have hnb := fun w' => rnum_any a (by omega) w'
    rw [q1] at hck
    have Hck := Lib.hid hck
    have Ha := Lib.hid hna
    have Hb := Lib.hid hnb
    clear hck hk hna hnb q1 q2
    go_enter Try.func45, Try.ntmps45
    go_wp2_with (first | (go_at_call 23; refine (Hck.out _).mono ?_; rintro e w' ⟨rfl, rfl⟩))
    generalize Cd.text s = la at *
    generalize Cd.num a = lb at *
    have hA := Holds.new w #[.string s, .int .i64 (a : Int)] 58
    have hx : Below w.heap.size w (w.alloc (.cells #[.string s, .int .i64 (a : Int)] 58)) := (Below.refl _ _).alloc (Nat.le_refl _) _
    generalize w.alloc (.cells #[.string s, .int .i64 (a : Int)] 58) = w0 at *
    have La : ∀ wx : World, Below w0.heap.size w0 wx → wx.cell? ⟨w.heap.size, 0, none⟩ = some (.string s) := fun wx h => (hA.below h).at_ 0 rfl
    have La1 : ∀ wx : World, Below w0.heap.size w0 wx → wx.cell? ⟨w.heap.size, 1, none⟩ = some (.int .i64 (a : Int)) := fun wx h => (hA.below h).at_ 1 rfl
    have hd : Below w0.heap.size w0 w0.drew := (Below.refl _ _).drew
    go_region_held_law (fun w' => Below w0.heap.size w0 w') (first | exact hd | exact hc4 | exact hc5 | exact hc6) (first | (go_at_call 73; ((with_reducible refine (Ha.out _).mono ?_); rintro e v4 ⟨A4, c4, rfl, ho4, hb4⟩; have hc4 : Below w0.heap.size w0 v4 := below_next (by assumption) hb4)) | (go_at_call 70; ((with_reducible refine (Hb.out _).mono ?_); rintro e v5 ⟨A5, c5, rfl, ho5, hb5⟩; have hc5 : Below w0.heap.size w0 v5 := below_next (by assumption) hb5; have ho4' := ho4.below hb5; have hz5 := hb5.size)) | (refine step_appD (by simp [Region.wanted]) (.tmp 20) (.tmp 24) 25 rfl rfl rfl ho4' A5 lb.length c5 lb rfl ho5.rd (by omega) (Nat.le_trans hb4.size hz5) ?_; intro A6 c6 v6 hg6; have hb6 := hg6.below (hb4.trans (hb5.mono hb4.size)) (Nat.le_trans hb4.size hz5) (fun g hg => (ho4'.blk g hg).1); have hc6 : Below w0.heap.size w0 v6 := below_next hd (hb6.mono (by exact Nat.le_refl _)); have ho6 := hg6.own))
    have hx6 := below_next hx hc6
    clear La La1 hd
    go_wp2
    go_ret2
    refine ⟨A6, c6, ?_, ?_, ?_, hx6⟩
    · rw [List.length_append]; rfl
    · rw [List.length_append]; exact ho6.rd
    · rw [List.length_append]; exact ho6.cap
end Go.Proofs.Ytaoiokilnmpniaa
