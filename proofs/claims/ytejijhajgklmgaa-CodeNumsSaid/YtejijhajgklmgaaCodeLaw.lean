/- What the laws' own rows, same, ahead and awake of layer 2 return. -/
import Derived.Test.YtejijhajgklmgaaStrsIn
import Derived.Test.YtejijhajgklmgaaCodeTexts
import Derived.Test.YtejijhajgklmgaaCodeFixed
import Derived.Test.YtejijhajgklmgaaCodeKeyOwn
import Derived.Test.YtejijhajgklmgaaCodeBehind
import Derived.Test.YtejijhajgklmgaaCodePartsOwn
namespace Go.Proofs.Ytejijhajgklmgaa
open Go.RowKit
/-- Rows of parts, as far as they are looked at. -/
def rowsOf (l : List ByteArray) : List ByteArray := (l.take 9).map cutS
def GivesRows (w : World) (l : List ByteArray) (e : Ending) (w' : World) : Prop :=
  ∃ A cap, e = .returned (.slice A l.length cap) ∧ RdS w' A l.length l ∧ l.length ≤ cap ∧ Below w.heap.size w w'
set_option maxRecDepth 100000 in
theorem rows_any (A : Option Addr) (n cap : Nat) (l : List ByteArray) (w : World) (hl : RdS w A n l) (hn : n ≤ 9223372036854775807) (hs : ∀ s ∈ l, s.size ≤ 9223372036854775807) :
    Calls Try.prog 26 #[.slice A n cap] w (GivesRows w (rowsOf l)) := by
  have Hs := Lib.hid hs
  clear hs
  go_enter Try.func26, Try.ntmps26
  go_wp2
  go_loopw [3, 4] (fun v i wr => ∃ (k c : Nat) (B : Option Addr), k ≤ n ∧ k ≤ 9 ∧ i = .int .i64 (k : Int) ∧ v = .slice B k c ∧ OwnS wr w.heap.size B k c ((l.take k).map cutS) ∧ Below w.heap.size w wr) (fun _ i _ => 9 - (intOf i).toNat)
  case atStart => exact ⟨0, 0, none, by omega, by omega, rfl, rfl, OwnS.none_ w w.heap.size, Below.refl _ _⟩
  case round =>
    obtain ⟨k, c, B, hk, hk9, rfl, rfl, ho, hb⟩ := hrel
    have hsz := hb.size
    by_cases hkn : k < n ∧ k < 9
    · obtain ⟨hkn1, hk91⟩ := hkn
      have hkn' : (k : Int) < (n : Int) := by omega
      have hk9' : (k : Int) < 9 := by omega
      obtain ⟨b, o, p, rfl, hbl, hp, hcell⟩ := hl.at_ hkn1
      have hps := Hs.out p (List.mem_of_getElem? hp)
      have hcell1 := (hb.cell (p := ⟨b, o + k, none⟩) hbl).trans hcell
      have hsh := short_any p hps wr
      have Hsh := Lib.hid hsh
      have Hp := Lib.hid hp
      have hcell2 : (wr.alloc (.cells #[.string (cutS p)] 9)).cell? ⟨wr.heap.size, 0, none⟩ = some (.string (cutS p)) := by
        rw [World.cell?_alloc_mark]; rfl
      clear hsh hp hcell hps
      go_wp2_with (first | (go_at_call 17; refine Hsh.out.mono ?_; rintro e w1 ⟨rfl, rfl⟩) | (at_builtin; refine wpList_appSS rfl (.tmp 15) (.tmp 21) rfl rfl (ho.alloc _) ⟨wr.heap.size, 0, none⟩ (cutS p) 1 rfl hcell2 (by omega) (Nat.le_trans hsz (size_alloc_le _ _)) ?_; intro B3 c3 w3 ho3 hg3))
      go_roundw
      case rel =>
        refine ⟨k + 1, c3, B3, by omega, by omega, by go_num, rfl, ?_, (hb.alloc hsz _).grown hg3 (Nat.le_trans hsz (size_alloc_le _ _)) (fun g hg => (ho.blk g hg).1)⟩
        have e : l.take (k + 1) = l.take k ++ [p] := by rw [List.take_add_one, Hp.out]; rfl
        rw [e, List.map_append]
        exact ho3
      case measure => simp [intOf]; omega
    · have e : (l.take k).map cutS = rowsOf l := by
        unfold rowsOf
        rcases Nat.lt_or_ge k n with h | h
        · rw [show k = 9 by omega]
        · rw [List.take_of_length_le (l := l) (by rw [hl.1]; exact h), List.take_of_length_le (l := l) (by rw [hl.1]; omega)]
      rw [e] at ho
      have hlen := ho.1
      have Hlen := Lib.hid hlen
      clear e hlen
      by_cases hkn1 : k < n
      · have hkn' : (k : Int) < (n : Int) := by omega
        have hk9' : ¬ (k : Int) < 9 := by omega
        clear hkn
        go_wp2
        go_ret
        refine ⟨B, c, ?_⟩
        rw [Hlen.out]
        exact ⟨rfl, ho.rd, ho.fits, hb⟩
      · have hkn' : ¬ (k : Int) < (n : Int) := by omega
        clear hkn
        go_wp2
        go_ret
        refine ⟨B, c, ?_⟩
        rw [Hlen.out]
        exact ⟨rfl, ho.rd, ho.fits, hb⟩
theorem take_succ_eq {α : Type} {x y : List α} {k : Nat} {p : α} (h : x.take k = y.take k) (hx : x[k]? = some p) (hy : y[k]? = some p) : x.take (k + 1) = y.take (k + 1) := by
  rw [List.take_add_one, List.take_add_one, hx, hy, h]
theorem bs_ne {a b : ByteArray} (h : a ≠ b) : ¬ bs a = bs b := fun e => h (bs_inj e)
set_option maxRecDepth 100000 in
theorem same_any (A B : Option Addr) (n cn m cm : Nat) (x y : List ByteArray) (w : World) (hx : RdS w A n x) (hy : RdS w B m y) (hn : n ≤ 1000000) (hm : m ≤ 1000000) :
    Calls Try.prog 31 #[.slice A n cn, .slice B m cm] w fun e w' => e = .returned (.bool (decide (x = y))) ∧ Below w.heap.size w w' := by
  by_cases hnm : n = m
  · subst hnm
    go_enter Try.func31, Try.ntmps31
    go_wp2
    go_loopw [5] (fun i wr => ∃ k : Nat, k ≤ n ∧ i = .int .i64 (k : Int) ∧ Below w.heap.size w wr ∧ Hid (x.take k = y.take k)) (fun i _ => n - (intOf i).toNat)
    case atStart => exact ⟨0, by omega, rfl, Below.refl _ _, Lib.hid rfl⟩
    case round =>
      obtain ⟨k, hk, rfl, hb, hE⟩ := hrel
      by_cases hkn : k < n
      · have hkn' : (k : Int) < (n : Int) := by omega
        obtain ⟨b, o, p, rfl, hbl, hp, hcell⟩ := hx.at_ hkn
        obtain ⟨b2, o2, q, rfl, hbl2, hq, hcell2⟩ := hy.at_ hkn
        have hc1 := (hb.cell (p := ⟨b, o + k, none⟩) hbl).trans hcell
        have hc2 := (hb.cell (p := ⟨b2, o2 + k, none⟩) hbl2).trans hcell2
        have Hp := Lib.hid hp
        have Hq := Lib.hid hq
        clear hp hq hcell hcell2
        by_cases hpq : p = q
        · subst hpq
          have hne : (p.toList == p.toList) = true := by simp
          go_wp2
          go_region
          go_wp2
          go_roundw
          case rel => exact ⟨k + 1, by omega, by go_num, hb.drew, Lib.hid (take_succ_eq hE.out Hp.out Hq.out)⟩
          case measure => simp [intOf]; omega
        · have hne : (p.toList == q.toList) = false := by rw [toList_beq, decide_eq_false (bs_ne hpq)]
          have hxy : decide (x = y) = false := by
            rw [decide_eq_false_iff_not]
            intro e
            rw [e, Hq.out] at Hp
            have := Hp.out
            injection this with this
            exact hpq this.symm
          have Hxy := Lib.hid hxy
          clear hpq hxy
          go_wp2
          go_region
          go_wp2
          go_ret
          rw [Hxy.out]
          exact ⟨rfl, hb.drew⟩
      · have hke : k = n := by omega
        subst hke
        have hxy : decide (x = y) = true := by
          rw [decide_eq_true_iff]
          have := hE.out
          rw [List.take_of_length_le (Nat.le_of_eq hx.1), List.take_of_length_le (Nat.le_of_eq hy.1)] at this
          exact this
        have Hxy := Lib.hid hxy
        clear hxy
        go_wp2
        go_ret
        rw [Hxy.out]
        exact ⟨rfl, hb⟩
  · have hne : ((n : Int) != (m : Int)) = true := by rw [bne_iff_ne]; omega
    have hxy : decide (x = y) = false := by
      rw [decide_eq_false_iff_not]
      intro e
      apply hnm
      rw [← hx.1, ← hy.1, e]
    have Hxy := Lib.hid hxy
    clear hnm hxy
    go_enter Try.func31, Try.ntmps31
    go_wp2
    go_ret
    rw [Hxy.out]
    exact ⟨rfl, Below.refl _ _⟩
/-- Is a row of parts ahead of another one, part by part? -/
def aheadB : List ByteArray → List ByteArray → Bool
  | [], [] => false
  | [], _ :: _ => true
  | _ :: _, [] => false
  | a :: x, b :: y => if a = b then aheadB x y else lessL (bs a) (bs b)
theorem ahead_ne (x y : List ByteArray) (k : Nat) (p q : ByteArray) (h : x.take k = y.take k) (hx : x[k]? = some p) (hy : y[k]? = some q) (hpq : p ≠ q) : aheadB x y = lessL (bs p) (bs q) := by
  induction k generalizing x y with
  | zero =>
    cases x with
    | nil => cases hx
    | cons a x =>
      cases y with
      | nil => cases hy
      | cons b y =>
        simp at hx hy
        subst hx hy
        show (if a = b then _ else _) = _
        rw [if_neg hpq]
  | succ k ih =>
    cases x with
    | nil => cases hx
    | cons a x =>
      cases y with
      | nil => cases hy
      | cons b y =>
        simp only [List.take_succ_cons, List.cons.injEq] at h
        show (if a = b then aheadB x y else _) = _
        rw [if_pos h.1]
        exact ih x y h.2 (by simpa using hx) (by simpa using hy)
theorem ahead_end (x y : List ByteArray) (k : Nat) (h : x.take k = y.take k) (hk : k = x.length ∧ k ≤ y.length ∨ k = y.length ∧ k ≤ x.length) : aheadB x y = decide (x.length < y.length) := by
  induction x generalizing y k with
  | nil =>
    cases y with
    | nil => rfl
    | cons b y => show true = _; rw [eq_comm, decide_eq_true_iff]; simp
  | cons a x ih =>
    cases y with
    | nil => show false = _; rw [eq_comm, decide_eq_false_iff_not]; simp
    | cons b y =>
      cases k with
      | zero => simp at hk
      | succ k =>
        simp only [List.take_succ_cons, List.cons.injEq] at h
        show (if a = b then aheadB x y else _) = _
        rw [if_pos h.1, ih y k h.2 (by simpa using hk)]
        simp
set_option maxRecDepth 100000 in
theorem ahead_any (A B : Option Addr) (n cn m cm : Nat) (x y : List ByteArray) (w : World) (hx : RdS w A n x) (hy : RdS w B m y) (hn : n ≤ 1000000) (hm : m ≤ 1000000) :
    Calls Try.prog 32 #[.slice A n cn, .slice B m cm] w fun e w' => e = .returned (.bool (aheadB x y)) ∧ Below w.heap.size w w' := by
  go_enter Try.func32, Try.ntmps32
  go_wp2
  go_loopw [5] (fun i wr => ∃ k : Nat, k ≤ n ∧ k ≤ m ∧ i = .int .i64 (k : Int) ∧ Below w.heap.size w wr ∧ Hid (x.take k = y.take k)) (fun i _ => n - (intOf i).toNat)
  case atStart => exact ⟨0, by omega, by omega, rfl, Below.refl _ _, Lib.hid rfl⟩
  case round =>
    obtain ⟨k, hk, hkm, rfl, hb, hE⟩ := hrel
    by_cases hkn : k < n ∧ k < m
    · obtain ⟨hkn1, hkm1⟩ := hkn
      have hkn' : (k : Int) < (n : Int) := by omega
      have hkm' : (k : Int) < (m : Int) := by omega
      obtain ⟨b, o, p, rfl, hbl, hp, hcell⟩ := hx.at_ hkn1
      obtain ⟨b2, o2, q, rfl, hbl2, hq, hcell2⟩ := hy.at_ hkm1
      have hc1 := (hb.cell (p := ⟨b, o + k, none⟩) hbl).trans hcell
      have hc2 := (hb.cell (p := ⟨b2, o2 + k, none⟩) hbl2).trans hcell2
      have Hp := Lib.hid hp
      have Hq := Lib.hid hq
      clear hp hq hcell hcell2
      by_cases hpq : p = q
      · subst hpq
        have hne : (p.toList == p.toList) = true := by simp
        go_wp2
        go_region
        go_wp2
        go_roundw
        case rel => exact ⟨k + 1, by omega, by omega, by go_num, hb.drew, Lib.hid (take_succ_eq hE.out Hp.out Hq.out)⟩
        case measure => simp [intOf]; omega
      · have hne : (p.toList == q.toList) = false := by rw [toList_beq, decide_eq_false (bs_ne hpq)]
        have hxy := ahead_ne x y k p q hE.out Hp.out Hq.out hpq
        have Hxy := Lib.hid hxy
        clear hpq hxy
        go_wp2
        go_region
        go_wp2
        go_region
        go_wp2
        go_ret
        rw [Hxy.out, ← bytesLess_bs]
        exact ⟨rfl, hb.drew.drew⟩
    · have hxy : aheadB x y = decide (n < m) := by
        rw [ahead_end x y k hE.out (by rw [hx.1, hy.1]; omega), hx.1, hy.1]
      have Hxy := Lib.hid hxy
      clear hxy
      by_cases hkn1 : k < n
      · have hkn' : (k : Int) < (n : Int) := by omega
        have hkm' : ¬ (k : Int) < (m : Int) := by omega
        clear hkn
        go_wp2
        go_ret
        rw [Hxy.out]
        refine ⟨?_, hb⟩
        simp
      · have hkn' : ¬ (k : Int) < (n : Int) := by omega
        clear hkn
        go_wp2
        go_ret
        rw [Hxy.out]
        refine ⟨?_, hb⟩
        simp
theorem awake_key : str (Cd.keyOf [⟨#[97]⟩, ⟨#[]⟩]) = ⟨#[97, 0, 1, 0, 1]⟩ := by decide +kernel
theorem awake_num : str (Cd.num 300) = ⟨#[172, 2]⟩ := by decide +kernel
theorem awake_behind : str (Cd.behind (bs ⟨#[97, 255]⟩)) = ⟨#[98]⟩ := by decide +kernel
set_option maxRecDepth 100000 in
theorem awake_any (w : World) : Calls Try.prog 16 #[] w fun e w' => e = .returned (.bool true) ∧ Below w.heap.size w w' := by
  have hkey : RdS (w.alloc (.cells #[.string ⟨#[97]⟩, .string ⟨#[]⟩] 9)) (some ⟨w.heap.size, 0, none⟩) 2 [⟨#[97]⟩, ⟨#[]⟩] := by
    refine ⟨rfl, fun _ => ⟨w.heap.size, 0, rfl, by simp, fun j s hs => ?_⟩⟩
    rw [Nat.zero_add, World.cell?_alloc_mark]
    match j, hs with
    | 0, hs => simp at hs; subst hs; rfl
    | 1, hs => simp at hs; subst hs; rfl
    | j + 2, hs => simp at hs
  have hk := fun w' (h : RdS w' (some ⟨w.heap.size, 0, none⟩) 2 [⟨#[97]⟩, ⟨#[]⟩]) => key_few (some ⟨w.heap.size, 0, none⟩) 2 2 _ w' h (by omega) (by intro p hp; simp at hp; rcases hp with rfl | rfl <;> decide)
  rw [awake_key] at hk
  have Hk := Lib.hid (hk _ hkey)
  clear hk hkey
  have hn := fun w' => num_any 300 (by omega) w'
  have hbh := fun w' => behind_any ⟨#[97, 255]⟩ (by decide) w'
  rw [awake_behind] at hbh
  have Hn := Lib.hid hn
  have Hbh := Lib.hid hbh
  clear hn hbh
  have hw2 : (w.alloc (.cells #[.string ⟨#[97]⟩, .string ⟨#[]⟩] 9)).heap.size = w.heap.size + 1 := by simp
  go_enter Try.func16, Try.ntmps16
  have e172 : (Cd.num 300).length = 2 := by decide +kernel
  have es := awake_num
  have E172 := Lib.hid e172
  have Es := Lib.hid es
  clear e172 es
  go_wp2_with (first | (go_at_call 27; refine Hk.out.mono ?_; rintro e w1 ⟨rfl, hb1⟩) | (go_at_call 14; refine (Hn.out _).mono ?_; rintro e w2 ⟨A2, c2, rfl, ho2, hb2⟩; have hcv2 := run_str (cap := c2) ho2.rd; rw [Es.out] at hcv2) | (go_at_call 33; refine (Hbh.out _).mono ?_; rintro e w3 ⟨rfl, hb3⟩))
  go_ret
  refine ⟨rfl, ?_⟩
  exact ((((Below.refl _ _).alloc (Nat.le_refl _) _).trans (hb1.mono (by simp))).trans (hb2.mono (Nat.le_trans (by simp) hb1.size))).trans (hb3.mono (Nat.le_trans (Nat.le_trans (by simp) hb1.size) hb2.size))
end Go.Proofs.Ytejijhajgklmgaa
