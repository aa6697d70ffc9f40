/- What the document's own Text and TakeText of layer 2 return. -/
import Derived.Test.YtbfjcpblbmlfcaaNumF
import Derived.Test.YtbfjcpblbmlfcaaStr
namespace Go.Proofs.Ytbfjcpblbmlfcaa
open Go.RowKit
theorem ret_string {a b : ByteArray} (h : a = b) : Ending.returned (.string a) = .returned (.string b) := by rw [h]
theorem ret_slice2 {A : Option Addr} {n m cap : Nat} (h : n = m) : Ending.returned (.slice A n cap) = .returned (.slice A m cap) := by rw [h]
namespace Cd
def text (s : ByteArray) : List Nat := num s.size ++ bs s
end Cd
set_option maxRecDepth 100000 in
theorem rtext_any (s : ByteArray) (hs : s.size ≤ 1000000) (w : World) :
    Calls Try.prog 28 #[.string s] w (GivesBytes w (Cd.text s)) := by
  have hnum := rnum_any s.size (by omega) w
  have Hnum := Lib.hid hnum
  have hlen := Cd.num_length s.size
  clear hnum
  go_enter Try.func28, Try.ntmps28
  go_wp2_with (first | (go_at_call 27; refine Hnum.out.mono ?_; rintro e w1 ⟨A1, c1, rfl, ho1, hb1⟩; have hs1 := hb1.size) | (at_builtin; refine wpList_appS rfl (.tmp 6) (.tmp 7) rfl rfl ho1 s rfl (by omega) hs1 ?_; intro A2 c2 w2 ho2 hg2))
  go_ret
  have hl : (Cd.text s).length = (Cd.num s.size).length + s.size := by unfold Cd.text; rw [List.length_append, bs_length]
  refine ⟨A2, c2, ?_⟩
  rw [hl]
  exact ⟨rfl, ho2, hb1.grown hg2 hs1 (fun g hg => (ho1.blk g hg).1)⟩
namespace Cd
/-- The text at the beginning, and what stands behind it. -/
def takeText (l : List Nat) (most : Int) : Option (List Nat × List Nat) :=
  match takeNum l with
  | none => none
  | some (v, r) => if most < 0 ∨ most < (v : Int) ∨ r.length < v then none else some (r.take v, r.drop v)
end Cd
/-- How a TakeText ends. -/
def GivesTakeText (w : World) (o : Option (List Nat × List Nat)) (e : Ending) (w' : World) : Prop :=
  match o with
  | none => e = .returned (.tuple #[.string ⟨#[]⟩, .slice none 0 0, .bool false]) ∧ Below w.heap.size w w'
  | some (t, r) => ∃ A cap, e = .returned (.tuple #[.string (str t), .slice A r.length cap, .bool true]) ∧ Rd w' A r.length r ∧ r.length ≤ cap ∧ Below w.heap.size w w'
set_option maxRecDepth 100000 in
theorem rtaketext_none (A : Option Addr) (n cap : Nat) (most : Int) (l : List Nat) (w : World) (hl : Rd w A n l) (hc : n ≤ cap) (hn : n ≤ 1000000) (h : Cd.takeNum l = none) :
    Calls Try.prog 43 #[.slice A n cap, .int .i64 most] w (GivesTakeText w none) := by
  have htn := rtakenum_any A n cap l w hl hc hn
  rw [h] at htn
  have Htn := Lib.hid htn
  clear htn h
  go_enter Try.func43, Try.ntmps43
  go_wp2_with (first | (go_at_call 42; refine Htn.out.mono ?_; rintro e w1 ⟨rfl, hb1⟩))
  go_ret3
  exact ⟨rfl, hb1⟩
set_option maxRecDepth 100000 in
theorem rtaketext_neg (A : Option Addr) (n cap v : Nat) (most : Int) (l r : List Nat) (w : World) (hl : Rd w A n l) (hc : n ≤ cap) (hn : n ≤ 1000000) (h : Cd.takeNum l = some (v, r)) (hm : most < 0) :
    Calls Try.prog 43 #[.slice A n cap, .int .i64 most] w (GivesTakeText w none) := by
  have htn := rtakenum_any A n cap l w hl hc hn
  rw [h] at htn
  have Htn := Lib.hid htn
  clear htn h
  go_enter Try.func43, Try.ntmps43
  go_wp2_with (first | (go_at_call 42; refine Htn.out.mono ?_; rintro e w1 ⟨A1, c1, rfl, hr1, hc1, hb1⟩))
  go_ret3
  exact ⟨rfl, hb1⟩
theorem wrap_u64_nat (m : Nat) (h : m < 18446744073709551616) : IntKind.u64.wrap (m : Int) = (m : Int) := by rw [IntKind.wrap_u64]; omega
set_option maxRecDepth 100000 in
theorem rtaketext_out (A : Option Addr) (n cap v m : Nat) (l r : List Nat) (w : World) (hl : Rd w A n l) (hc : n ≤ cap) (hn : n ≤ 1000000) (hm : m < 9223372036854775808) (h : Cd.takeNum l = some (v, r)) (hv : m < v ∨ r.length < v) :
    Calls Try.prog 43 #[.slice A n cap, .int .i64 (m : Int)] w (GivesTakeText w none) := by
  have htn := rtakenum_any A n cap l w hl hc hn
  have hbd := (takeNum_bound h).2.1
  have hw1 := wrap_u64_nat m (by omega)
  have hw2 := wrap_u64_nat r.length (by rw [hl.1] at hbd; omega)
  rw [h] at htn
  have Htn := Lib.hid htn
  clear htn h hm hbd
  by_cases hmv : m < v
  · have hmv' : (m : Int) < (v : Int) := by omega
    clear hv
    go_enter Try.func43, Try.ntmps43
    go_wp2_with (first | (go_at_call 42; refine Htn.out.mono ?_; rintro e w1 ⟨A1, c1, rfl, hr1, hc1, hb1⟩))
    go_ret3
    exact ⟨rfl, hb1⟩
  · have hmv' : ¬ (m : Int) < (v : Int) := by omega
    have hrv : (r.length : Int) < (v : Int) := by omega
    clear hv
    go_enter Try.func43, Try.ntmps43
    go_wp2_with (first | (go_at_call 42; refine Htn.out.mono ?_; rintro e w1 ⟨A1, c1, rfl, hr1, hc1, hb1⟩))
    go_ret3
    exact ⟨rfl, hb1⟩
set_option maxRecDepth 100000 in
theorem rtaketext_in (A : Option Addr) (n cap v m : Nat) (l r : List Nat) (w : World) (hl : Rd w A n l) (hc : n ≤ cap) (hn : n ≤ 1000000) (hm : m < 9223372036854775808) (h : Cd.takeNum l = some (v, r)) (hmv : v ≤ m) (hrv : v ≤ r.length) :
    Calls Try.prog 43 #[.slice A n cap, .int .i64 (m : Int)] w (GivesTakeText w (some (r.take v, r.drop v))) := by
  have htn := rtakenum_any A n cap l w hl hc hn
  have hbd := (takeNum_bound h).2.1
  rw [hl.1] at hbd
  have hw1 := wrap_u64_nat m (by omega)
  have hw2 := wrap_u64_nat r.length (by omega)
  rw [h] at htn
  have Htn := Lib.hid htn
  clear htn h hm
  have hmv' : ¬ (m : Int) < (v : Int) := by omega
  have hrv' : ¬ (r.length : Int) < (v : Int) := by omega
  go_enter Try.func43, Try.ntmps43
  go_wp2_with (first | (go_at_call 42; refine Htn.out.mono ?_; rintro e w1 ⟨A1, c1, rfl, hr1, hc1, hb1⟩))
  have hcv : (convert 24 9 (.slice A1 v c1)).run Try.prog w1.drew = .ok (.string (str (r.take v))) w1.drew := run_str (hr1.take hrv).drew
  have hcr := cut_rd hr1 hrv hc1
  have hld : (r.drop v).length = r.length - v := List.length_drop
  have Hld := Lib.hid hld
  clear hld
  go_region
  generalize (if c1 = v then A1 else Option.map (fun x => x.add v) A1) = B at hcr ⊢
  go_wp2
  go_ret3
  refine ⟨B, c1 - v, ?_⟩
  rw [Hld.out]
  exact ⟨rfl, hcr.drew, by omega, hb1.drew⟩
theorem rtaketext_any (A : Option Addr) (n cap : Nat) (most : Int) (l : List Nat) (w : World) (hl : Rd w A n l) (hc : n ≤ cap) (hn : n ≤ 1000000) (hm : most ≤ 9223372036854775807) :
    Calls Try.prog 43 #[.slice A n cap, .int .i64 most] w (GivesTakeText w (Cd.takeText l most)) := by
  unfold Cd.takeText
  rcases h : Cd.takeNum l with _ | ⟨v, r⟩
  · exact rtaketext_none A n cap most l w hl hc hn h
  · show Calls _ _ _ _ (GivesTakeText w (if most < 0 ∨ most < (v : Int) ∨ r.length < v then none else some (r.take v, r.drop v)))
    by_cases hneg : most < 0
    · rw [if_pos (.inl hneg)]
      exact rtaketext_neg A n cap v most l r w hl hc hn h hneg
    · obtain ⟨m, rfl⟩ := Int.eq_ofNat_of_zero_le (show 0 ≤ most by omega)
      by_cases hv : m < v ∨ r.length < v
      · rw [if_pos (by rcases hv with h1 | h1 <;> omega)]
        exact rtaketext_out A n cap v m l r w hl hc hn (by omega) h hv
      · rw [if_neg (by omega)]
        exact rtaketext_in A n cap v m l r w hl hc hn (by omega) h (by omega) (by omega)
end Go.Proofs.Ytbfjcpblbmlfcaa
