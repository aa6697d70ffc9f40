/- What package code's own TakeNum, Text and TakeText return; what they leave over is memory of its own. -/
import Derived.Test.YthfcjlndaajkfaaGreatN06
import Derived.Test.YthfcjlndaajkfaaGreatN07
namespace Go.Proofs.YthfcjlndaajkfaaGreat
open Go.RowKit
/-- TakeNum's rest is memory of its own. -/
def GivesTakeO (w : World) (o : Option (Nat × List Nat)) (e : Ending) (w' : World) : Prop :=
  match o with
  | none => e = .returned (.tuple #[.int .u64 0, .slice none 0 0, .bool false]) ∧ Below w.heap.size w w'
  | some (v, r) => ∃ A cap, e = .returned (.tuple #[.int .u64 (v : Int), .slice A r.length cap, .bool true]) ∧ Own w' w.heap.size A r.length cap r ∧ Below w.heap.size w w'
set_option maxRecDepth 100000 in
theorem takenum_own (A : Option Addr) (n cap : Nat) (l : List Nat) (w : World) (hl : Rd w A n l) (hc : n ≤ cap) (hn : n ≤ 1000000) :
    Calls Tryz.prog 85 #[.slice A n cap] w (GivesTakeO w (Cd.takeNum l)) := by
  have hnum := number_any A n cap l w hl hc hn
  rcases htk : Cd.takeNum l with _ | ⟨v, r⟩
  · rw [htk] at hnum
    have Hnum := Lib.hid hnum
    clear hnum
    go_enter Tryz.func85, Tryz.ntmps85
    go_wp2_with (first | (go_at_call 102; refine Hnum.out.mono ?_; rintro e w1 ⟨rfl, rfl⟩))
    go_ret3
    exact ⟨rfl, Below.refl _ _⟩
  · rw [htk] at hnum
    have Hnum := Lib.hid hnum
    have hlen := hl.1
    have Hlen := Lib.hid hlen
    clear hnum htk hlen
    go_enter Tryz.func85, Tryz.ntmps85
    go_wp2_with (first | (go_at_call 102; refine Hnum.out.mono ?_; rintro e w1 ⟨rfl, k, rfl, hk1, hk2, hr, hv⟩; rw [Hlen.out] at hk2; have hk0 : ((k : Int) == 0) = false := (by rw [beq_eq_false_iff_ne]; omega); have Hr := Lib.hid hr; clear hr) | (go_at_call 103; refine (own_drop A n cap k l _ hl hk2 hc hn).mono ?_; rintro e w2 ⟨A2, c2, rfl, ho2, hb2⟩))
    all_goals
      go_ret3
      rw [Hr.out]
      refine ⟨A2, c2, ?_, ho2, hb2⟩
      rw [List.length_drop]
      rfl
/-- TakeText's rest is memory of its own. -/
def GivesTextO (w : World) (o : Option (List Nat × List Nat)) (e : Ending) (w' : World) : Prop :=
  match o with
  | none => e = .returned (.tuple #[.string ⟨#[]⟩, .slice none 0 0, .bool false]) ∧ Below w.heap.size w w'
  | some (t, r) => ∃ A cap, e = .returned (.tuple #[.string (str t), .slice A r.length cap, .bool true]) ∧ Own w' w.heap.size A r.length cap r ∧ Below w.heap.size w w'
set_option maxRecDepth 100000 in
theorem text_any (s : ByteArray) (hs : s.size ≤ 1000000) (w : World) :
    Calls Tryz.prog 82 #[.string s] w (GivesBytes w (Cd.text s)) := by
  have hnum := num_any s.size (by omega) w
  have Hnum := Lib.hid hnum
  have hlen := Cd.num_length s.size
  clear hnum
  go_enter Tryz.func82, Tryz.ntmps82
  go_wp2_with (first | (go_at_call 51; refine Hnum.out.mono ?_; rintro e w1 ⟨A1, c1, rfl, ho1, hb1⟩; have hs1 := hb1.size) | (at_builtin; refine wpList_appS rfl (.tmp 6) (.tmp 7) rfl rfl ho1 s rfl (by omega) hs1 ?_; intro A2 c2 w2 ho2 hg2))
  go_ret
  have hl : (Cd.text s).length = (Cd.num s.size).length + s.size := by unfold Cd.text; rw [List.length_append, bs_length]
  refine ⟨A2, c2, ?_⟩
  rw [hl]
  exact ⟨rfl, ho2, hb1.grown hg2 hs1 (fun g hg => (ho1.blk g hg).1)⟩
theorem Cd.takeNum_form {l : List Nat} {v : Nat} {r : List Nat} (h : Cd.takeNum l = some (v, r)) : ∃ k, 1 ≤ k ∧ k ≤ l.length ∧ r = l.drop k := by
  have hle : Cd.lead 10 l ≤ l.length := by
    have : ∀ (f : Nat) (l : List Nat), Cd.lead f l ≤ l.length := by
      intro f
      induction f with
      | zero => intro l; exact Nat.zero_le _
      | succ f ih =>
        intro l
        cases l with
        | nil => exact Nat.le_refl _
        | cons y t =>
          show (if 128 ≤ y then Cd.lead f t + 1 else 0) ≤ t.length + 1
          have := ih t
          split <;> omega
    exact this 10 l
  unfold Cd.takeNum at h
  split at h
  · cases h
  · rename_i h1
    split at h
    · cases h
    · split at h
      · injection h with h
        injection h with _ h2
        exact ⟨Cd.lead 10 l + 1, by omega, by omega, h2.symm⟩
      · cases h
/-- What number leaves, of bytes at whose beginning a number stands. -/
theorem number_some (A : Option Addr) (n cap v : Nat) (l r : List Nat) (w : World) (hl : Rd w A n l) (hc : n ≤ cap) (hn : n ≤ 1000000) (h : Cd.takeNum l = some (v, r)) :
    ∃ k : Nat, 1 ≤ k ∧ k ≤ n ∧ Hid (r = l.drop k) ∧ Calls Tryz.prog 102 #[.slice A n cap] w fun e w' => e = .returned (.tuple #[.int .u64 (v : Int), .int .i64 (k : Int)]) ∧ w = w' := by
  have hnum := number_any A n cap l w hl hc hn
  rw [h] at hnum
  obtain ⟨k, hk1, hk2, hr⟩ := Cd.takeNum_form h
  rw [hl.1] at hk2
  refine ⟨k, hk1, hk2, Lib.hid hr, hnum.mono ?_⟩
  rintro e w' ⟨hw, k', he, h1, h2, hr2, hv⟩
  have hlen := congrArg List.length hr
  have hlen2 := congrArg List.length hr2
  rw [List.length_drop, hl.1] at hlen hlen2
  rw [hl.1] at h2
  have e2 : k' = k := by omega
  subst e2
  exact ⟨he, hw⟩
set_option maxRecDepth 100000 in
theorem taketext_none (A : Option Addr) (n cap : Nat) (most : Int) (l : List Nat) (w : World) (hl : Rd w A n l) (hc : n ≤ cap) (hn : n ≤ 1000000) (h : Cd.takeNum l = none) :
    Calls Tryz.prog 87 #[.slice A n cap, .int .i64 most] w (GivesTextO w none) := by
  have htn := number_any A n cap l w hl hc hn
  rw [h] at htn
  have Htn := Lib.hid htn
  clear htn h
  go_enter Tryz.func87, Tryz.ntmps87
  go_wp2_with (first | (go_at_call 102; refine Htn.out.mono ?_; rintro e w1 ⟨rfl, rfl⟩))
  all_goals go_ret3
  all_goals exact ⟨rfl, Below.refl _ _⟩
set_option maxRecDepth 100000 in
theorem taketext_neg (A : Option Addr) (n cap v : Nat) (most : Int) (l r : List Nat) (w : World) (hl : Rd w A n l) (hc : n ≤ cap) (hn : n ≤ 1000000) (h : Cd.takeNum l = some (v, r)) (hm : most < 0) :
    Calls Tryz.prog 87 #[.slice A n cap, .int .i64 most] w (GivesTextO w none) := by
  obtain ⟨k, hk1, hk2, Hr, htn⟩ := number_some A n cap v l r w hl hc hn h
  have Htn := Lib.hid htn
  have hk0 : ((k : Int) == 0) = false := by rw [beq_eq_false_iff_ne]; omega
  clear htn h
  go_enter Tryz.func87, Tryz.ntmps87
  go_wp2_with (first | (go_at_call 102; refine Htn.out.mono ?_; rintro e w1 ⟨rfl, rfl⟩))
  all_goals go_ret3
  all_goals exact ⟨rfl, Below.refl _ _⟩
set_option maxRecDepth 100000 in
theorem taketext_out (A : Option Addr) (n cap v m : Nat) (l r : List Nat) (w : World) (hl : Rd w A n l) (hc : n ≤ cap) (hn : n ≤ 1000000) (hm : m < 9223372036854775808) (h : Cd.takeNum l = some (v, r)) (hv : m < v ∨ r.length < v) :
    Calls Tryz.prog 87 #[.slice A n cap, .int .i64 (m : Int)] w (GivesTextO w none) := by
  obtain ⟨k, hk1, hk2, Hr, htn⟩ := number_some A n cap v l r w hl hc hn h
  have Htn := Lib.hid htn
  have hk0 : ((k : Int) == 0) = false := by rw [beq_eq_false_iff_ne]; omega
  have hrl : r.length = n - k := by rw [Hr.out, List.length_drop, hl.1]
  rw [hrl] at hv
  have hw1 := wrap_u64_nat m (by omega)
  have hw2 := wrap_u64_nat (n - k) (by omega)
  clear htn h hm hrl
  by_cases hmv : m < v
  · have hmv' : (m : Int) < (v : Int) := by omega
    clear hv
    go_enter Tryz.func87, Tryz.ntmps87
    go_wp2_with (first | (go_at_call 102; refine Htn.out.mono ?_; rintro e w1 ⟨rfl, rfl⟩))
    all_goals go_ret3
    all_goals exact ⟨rfl, Below.refl _ _⟩
  · have hmv' : ¬ (m : Int) < (v : Int) := by omega
    have hrv : ((n - k : Nat) : Int) < (v : Int) := by omega
    have hrv' : n - k < v := by omega
    clear hv
    go_enter Tryz.func87, Tryz.ntmps87
    go_wp2_with (first | (go_at_call 102; refine Htn.out.mono ?_; rintro e w1 ⟨rfl, rfl⟩))
    all_goals go_ret3
    all_goals exact ⟨rfl, Below.refl _ _⟩
set_option maxRecDepth 100000 in
set_option maxHeartbeats 1000000 in
theorem taketext_in (A : Option Addr) (n cap v m : Nat) (l r : List Nat) (w : World) (hl : Rd w A n l) (hc : n ≤ cap) (hn : n ≤ 1000000) (hm : m < 9223372036854775808) (h : Cd.takeNum l = some (v, r)) (hmv : v ≤ m) (hrv : v ≤ r.length) :
    Calls Tryz.prog 87 #[.slice A n cap, .int .i64 (m : Int)] w (GivesTextO w (some (r.take v, r.drop v))) := by
  obtain ⟨k, hk1, hk2, Hr, htn⟩ := number_some A n cap v l r w hl hc hn h
  have Htn := Lib.hid htn
  have hk0 : ((k : Int) == 0) = false := by rw [beq_eq_false_iff_ne]; omega
  have hrl : r.length = n - k := by rw [Hr.out, List.length_drop, hl.1]
  rw [hrl] at hrv
  have hw1 := wrap_u64_nat m (by omega)
  have hw2 := wrap_u64_nat (n - k) (by omega)
  have hcut := cut_rd hl hk2 hc
  rw [← Hr.out] at hcut
  clear htn h hm hrl
  have hmv' : ¬ (m : Int) < (v : Int) := by omega
  have hrv' : ¬ n - k < v := by omega
  go_enter Tryz.func87, Tryz.ntmps87
  go_wp2_with (first | (go_at_call 102; refine Htn.out.mono ?_; rintro e w1 ⟨rfl, rfl⟩))
  · have hck : cap = k := by assumption
    rw [if_pos hck] at hcut
    obtain rfl : n = k := by omega
    obtain rfl : v = 0 := by omega
    clear hck
    have hx : Rd w A 0 (r.drop 0) := by rw [List.drop_zero]; rw [Nat.sub_self] at hcut; exact hcut
    have hcv : ∀ wx : World, Below w.heap.size w wx → (convert 51 9 (.slice A 0 0)).run Tryz.prog wx = .ok (.string (str (r.take 0))) wx := fun wx h => run_str ((Rd.nil wx A))
    have hd : Below w.heap.size w w.drew := (Below.refl _ _).drew
    go_region_held (fun w' => Below w.heap.size w w') (first | exact hd | exact hc3) (first | (go_at_call 103; refine (cown_any _ _ _ (r.drop 0) _ (hx.below (by assumption)) (by omega)).mono ?_; rintro e w3 ⟨A3, cap3, rfl, ho3, hb3⟩; have hc3 : Below w.heap.size w w3 := below_next (by assumption) hb3; have ho3 := own_base ho3 (Below.size (w := w) (B := w.heap.size) (by assumption))))
    all_goals
      go_wp2
      go_ret3
      refine ⟨A3, cap3, ?_, ho3, hc3⟩
      rw [List.length_drop]
      rfl
  · have hck : ¬ cap = k := by assumption
    rw [if_neg hck] at hcut
    generalize Option.map (fun x => x.add k) A = B at hcut ⊢
    have hc1 : n - k ≤ cap - k := by omega
    clear hck
    have hd : Below w.heap.size w w.drew := (Below.refl _ _).drew
    have hcv : ∀ wx : World, Below w.heap.size w wx → (convert 51 9 (.slice B v (cap - k))).run Tryz.prog wx = .ok (.string (str (r.take v))) wx := fun wx h => run_str ((hcut.take hrv).below h)
    have hx := cut_rd hcut hrv hc1
    by_cases hcv0 : cap - k = v
    · rw [if_pos hcv0] at hx
      obtain rfl : v = cap - k := by omega
      clear hcv0
      rw [show n - k - (cap - k) = 0 by omega] at hx
      go_region_held (fun w' => Below w.heap.size w w') (first | exact hd | exact hc3) (first | (go_at_call 103; refine (cown_any _ _ _ (r.drop (cap - k)) _ (hx.below (by assumption)) (by omega)).mono ?_; rintro e w3 ⟨A3, cap3, rfl, ho3, hb3⟩; have hc3 : Below w.heap.size w w3 := below_next (by assumption) hb3; have ho3 := own_base ho3 (Below.size (w := w) (B := w.heap.size) (by assumption))))
      all_goals
        go_wp2
        go_ret3
        refine ⟨A3, cap3, ?_, ho3, hc3⟩
        rw [List.length_drop]
        rfl
    · rw [if_neg hcv0] at hx
      go_region_held (fun w' => Below w.heap.size w w') (first | exact hd | exact hc3) (first | (go_at_call 103; refine (cown_any _ _ _ (r.drop v) _ (hx.below (by assumption)) (by omega)).mono ?_; rintro e w3 ⟨A3, cap3, rfl, ho3, hb3⟩; have hc3 : Below w.heap.size w w3 := below_next (by assumption) hb3; have ho3 := own_base ho3 (Below.size (w := w) (B := w.heap.size) (by assumption))))
      all_goals
        go_wp2
        go_ret3
        refine ⟨A3, cap3, ?_, ho3, hc3⟩
        rw [List.length_drop]
        rfl
theorem taketext_any (A : Option Addr) (n cap : Nat) (most : Int) (l : List Nat) (w : World) (hl : Rd w A n l) (hc : n ≤ cap) (hn : n ≤ 1000000) (hm : most ≤ 9223372036854775807) :
    Calls Tryz.prog 87 #[.slice A n cap, .int .i64 most] w (GivesTextO w (Cd.takeText l most)) := by
  unfold Cd.takeText
  rcases h : Cd.takeNum l with _ | ⟨v, r⟩
  · exact taketext_none A n cap most l w hl hc hn h
  · show Calls _ _ _ _ (GivesTextO w (if most < 0 ∨ most < (v : Int) ∨ r.length < v then none else some (r.take v, r.drop v)))
    by_cases hneg : most < 0
    · rw [if_pos (.inl hneg)]
      exact taketext_neg A n cap v most l r w hl hc hn h hneg
    · obtain ⟨m, rfl⟩ := Int.eq_ofNat_of_zero_le (show 0 ≤ most by omega)
      by_cases hv : m < v ∨ r.length < v
      · rw [if_pos (by rcases hv with h1 | h1 <;> omega)]
        exact taketext_out A n cap v m l r w hl hc hn (by omega) h hv
      · rw [if_neg (by omega)]
        exact taketext_in A n cap v m l r w hl hc hn (by omega) h (by omega) (by omega)
end Go.Proofs.YthfcjlndaajkfaaGreat
