/- The document's own TakeNum and TakeText hand back memory of their own. The document's reader: its number, its text. -/
import Derived.Test.YthfcjlndaajkfaaGreatTRbText
import Derived.Test.YthfcjlndaajkfaaGreatN08
import Derived.Test.YthfcjlndaajkfaaGreatTEdNum
namespace Go.Proofs.YthfcjlndaajkfaaGreat
open Go.RowKit
set_option maxRecDepth 100000 in
theorem rtakenum_own (A : Option Addr) (n cap : Nat) (l : List Nat) (w : World) (hl : Rd w A n l) (hc : n ≤ cap) (hn : n ≤ 1000000) :
    Calls Tryz.prog 89 #[.slice A n cap] w (GivesTakeO w (Cd.takeNum l)) := by
  go_enter Tryz.func89, Tryz.ntmps89
  go_wp2
  go_loop [5] (fun i => ∃ j : Nat, j ≤ n ∧ j ≤ 10 ∧ i = .int .i64 (j : Int) ∧ Led l j) (fun i => n - (intOf i).toNat)
  case atStart => exact ⟨0, by omega, by omega, rfl, fun i x hi => by omega⟩
  case round =>
    obtain ⟨j, hj, hj10, rfl, hled⟩ := hrel
    have Hled := Lib.hid hled
    clear hled
    by_cases hjn : j < n
    · have hjn' : (j : Int) < (n : Int) := by omega
      by_cases hj9 : j < 10
      · have hj9' : (j : Int) < 10 := by omega
        obtain ⟨b, o, x, rfl, hb, hx, hx256, hcell⟩ := hl.at_ hjn
        have hx2 : (x : Int) < 256 := by omega
        have Hx := Lib.hid hx
        clear hx
        by_cases h128 : 128 ≤ x
        · have h128' : 128 ≤ (x : Int) := by omega
          go_wp2
          go_round
          case rel =>
            refine ⟨j + 1, by omega, by omega, by go_num, fun i y hi hy => ?_⟩
            by_cases e : i = j
            · subst e; rw [Hx.out] at hy; injection hy with hy; omega
            · exact Hled.out i y (by omega) hy
          case measure => simp [intOf]; omega
        · have h128' : ¬ 128 ≤ (x : Int) := by omega
          have hlead : Cd.lead 10 l = j := Cd.lead_eq 10 l j (by omega) (by rw [hl.1]; omega) Hled.out (.inr (.inr ⟨x, Hx.out, by omega⟩))
          have htk := Cd.takeNum_led hlead (by rw [hl.1]; exact hjn) hj9
          have Htk := Lib.hid htk
          have hL : (l.take (j + 1)).length = j + 1 := by rw [List.length_take, hl.1]; omega
          have HL := Lib.hid hL
          have hne1 : ((j : Int) == (n : Int)) = false := by rw [beq_eq_false_iff_ne]; omega
          have hne2 : ((j : Int) == 10) = false := by rw [beq_eq_false_iff_ne]; omega
          clear hlead htk hL
          go_wp2
          clear hne1 hne2
          go_loop [6, 7] (fun v i => ∃ (r y : Nat), r ≤ j + 1 ∧ i = .int .i64 ((r : Int) - 1) ∧ v = .int .u64 (y : Int) ∧ Hid (Summed (l.take (j + 1)) r y)) (fun _ i => (intOf i + 1).toNat)
          case atStart => exact ⟨j + 1, 0, by omega, by go_num, rfl, Lib.hid ⟨by rw [List.drop_of_length_le (Nat.le_of_eq HL.out)]; rfl, by omega⟩⟩
          case round =>
            obtain ⟨r, y, hr, rfl, rfl, hS⟩ := hrel
            by_cases h0 : 0 < r
            · obtain ⟨q, rfl⟩ : ∃ q, r = q + 1 := ⟨r - 1, by omega⟩
              have hi0 : ((q + 1 : Nat) : Int) - 1 = (q : Int) := by omega
              obtain ⟨b', o', z, he, hb', hz, hz256, hcellz⟩ := hl.at_ (k := q) (by omega)
              injection he with he
              injection he with he1 he2
              subst he1 he2
              have hz2 : (z : Int) < 256 := by omega
              have hqn : (q : Int) < (n : Int) := by omega
              have Hz := Lib.hid hz
              clear hz hcell hx2 h128' hjn' hj9'
              by_cases hbig : 144115188075855871 < y
              · have hbig' : 144115188075855871 < (y : Int) := by omega
                go_wp2
                go_ret3
                have hnone : Cd.takeNum l = none := by
                  rw [Htk.out, if_pos]
                  have h1 := Cd.val7_drop (l.take (j + 1)) q (by rw [HL.out]; omega)
                  rw [← hS.out.1] at h1
                  omega
                rw [hnone]
                exact ⟨rfl, Below.refl _ _⟩
              · have hbig' : ¬ 144115188075855871 < (y : Int) := by omega
                go_wp2
                go_round
                case rel =>
                  refine ⟨q, y * 128 + z % 128, by omega, rfl, by go_num, Lib.hid ⟨?_, by omega⟩⟩
                  rw [Cd.val7_at _ q z (by rw [List.getElem?_take, if_pos (by omega)]; exact Hz.out), ← hS.out.1]
                case measure => simp [intOf] <;> omega
            · have hr0 : r = 0 := by omega
              subst hr0
              have hy64 := hS.out.2
              have hyv : Cd.val7 (l.take (j + 1)) = y := by
                have := hS.out.1
                rw [List.drop_zero] at this
                exact this.symm
              have htk2 : Cd.takeNum l = if (Cd.num y).length = j + 1 then some (y, l.drop (j + 1)) else none := by
                rw [Htk.out, hyv, if_neg (by omega)]
              have hnum := rbnum_any y hy64 w
              have Htk2 := Lib.hid htk2
              have Hnum := Lib.hid hnum
              have hlen11 := Cd.num_length y
              clear htk2 hnum hy64 hyv hcell hx2 h128' hjn' hj9'
              by_cases hlen : (Cd.num y).length = j + 1
              · have hq : (((Cd.num y).length : Int) != (j : Int) + 1) = false := by rw [bne_eq_false_iff_eq]; omega
                have htk3 := Htk2.out
                rw [if_pos hlen] at htk3
                have Htk3 := Lib.hid htk3
                have hld : (l.drop (j + 1)).length = n - (j + 1) := by rw [List.length_drop, hl.1]
                have Hld := Lib.hid hld
                have Hlen := Lib.hid hlen
                clear htk3 hld hlen
                by_cases hck : j + 1 = cap
                · have hnj : n = j + 1 := by omega
                  subst hck
                  subst hnj
                  have hnil : l.drop (j + 1) = [] := by rw [List.drop_eq_nil_iff, hl.1]; exact Nat.le_refl _
                  have Hnil := Lib.hid hnil
                  clear hnil
                  go_wp2_with (first | (go_at_call 83; refine Hnum.out.mono ?_; rintro e w1 ⟨A1, c1, rfl, ho1, hb1⟩) | (at_builtin; refine wpList_appB rfl (.tmp 58) (.tmp 62) rfl rfl (Own.empty w1) (some ⟨b, o, none⟩) 0 0 [] rfl (Rd.nil _ _) (by omega) (size_alloc_le _ _) ?_; intro A2 c2 w2 hg2; have hz := hg2.fresh; have hb2 := hz.1; have ho2 := hz.2; clear hg2 hz))
                  go_ret3
                  rw [Htk3.out]
                  refine ⟨A2, c2, ?_⟩
                  rw [Hnil.out]
                  exact ⟨rfl, own_base ho2 hb1.size, below_next hb1 hb2⟩
                · have hrd := drop_rd hl (show j + 1 ≤ n by omega)
                  have hjc : (j : Int) + 1 < (cap : Int) := by omega
                  go_wp2_with (first | (go_at_call 83; refine Hnum.out.mono ?_; rintro e w1 ⟨A1, c1, rfl, ho1, hb1⟩) | (at_builtin; refine wpList_appB rfl (.tmp 58) (.tmp 62) rfl rfl (Own.empty w1) (some ⟨b, o + (j + 1), none⟩) (n - (j + 1)) (cap - (j + 1)) (l.drop (j + 1)) rfl ((hrd.below hb1).alloc _) (by omega) (size_alloc_le _ _) ?_; intro A2 c2 w2 hg2; have hz := hg2.fresh; have hb2 := hz.1; have ho2 := hz.2; clear hg2 hz))
                  go_ret3
                  rw [Htk3.out]
                  refine ⟨A2, c2, ?_⟩
                  rw [Hld.out]
                  exact ⟨rfl, own_base ho2 hb1.size, below_next hb1 hb2⟩
              · have hq : (((Cd.num y).length : Int) != (j : Int) + 1) = true := by rw [bne_iff_ne]; omega
                have htk3 := Htk2.out
                rw [if_neg hlen] at htk3
                have Htk3 := Lib.hid htk3
                clear htk3 hlen
                go_wp2_with (first | (go_at_call 83; refine Hnum.out.mono ?_; rintro e w1 ⟨A1, c1, rfl, ho1, hb1⟩))
                go_ret3
                rw [Htk3.out]
                exact ⟨rfl, hb1⟩
      · have hj10' : j = 10 := by omega
        subst hj10'
        have hnone := Cd.takeNum_none (l := l) (.inr (Cd.lead_eq 10 l 10 (by omega) (by rw [hl.1]; omega) Hled.out (.inl rfl)))
        have Hnone := Lib.hid hnone
        have hne1 : ((10 : Int) == (n : Int)) = false := by rw [beq_eq_false_iff_ne]; omega
        clear hnone
        go_wp2
        go_ret3
        rw [Hnone.out]
        exact ⟨rfl, Below.refl _ _⟩
    · have hjn2 : j = n := by omega
      subst hjn2
      have hnone := Cd.takeNum_none (l := l) (.inl ((Cd.lead_eq 10 l j (by omega) (by rw [hl.1]; omega) Hled.out (.inr (.inl hl.1.symm))).trans hl.1.symm))
      have Hnone := Lib.hid hnone
      clear hnone
      go_wp2
      go_ret3
      rw [Hnone.out]
      exact ⟨rfl, Below.refl _ _⟩
/-- TakeText's rest lies in new memory. -/
def GivesTextN (w : World) (o : Option (List Nat × List Nat)) (e : Ending) (w' : World) : Prop :=
  match o with
  | none => e = .returned (.tuple #[.string ⟨#[]⟩, .slice none 0 0, .bool false]) ∧ Below w.heap.size w w'
  | some (t, r) => ∃ A cap, e = .returned (.tuple #[.string (str t), .slice A r.length cap, .bool true]) ∧ Rd w' A r.length r ∧ r.length ≤ cap ∧ Below w.heap.size w w' ∧ ∀ b o, A = some ⟨b, o, none⟩ → w.heap.size ≤ b ∧ b < w'.heap.size
set_option maxRecDepth 100000 in
theorem rtakeown_none (A : Option Addr) (n cap : Nat) (most : Int) (l : List Nat) (w : World) (hl : Rd w A n l) (hc : n ≤ cap) (hn : n ≤ 1000000) (h : Cd.takeNum l = none) :
    Calls Tryz.prog 90 #[.slice A n cap, .int .i64 most] w (GivesTextN w none) := by
  have htn := rtakenum_own A n cap l w hl hc hn
  rw [h] at htn
  have Htn := Lib.hid htn
  clear htn h
  go_enter Tryz.func90, Tryz.ntmps90
  go_wp2_with (first | (go_at_call 89; refine Htn.out.mono ?_; rintro e w1 ⟨rfl, hb1⟩))
  go_ret3
  exact ⟨rfl, hb1⟩
set_option maxRecDepth 100000 in
theorem rtakeown_neg (A : Option Addr) (n cap v : Nat) (most : Int) (l r : List Nat) (w : World) (hl : Rd w A n l) (hc : n ≤ cap) (hn : n ≤ 1000000) (h : Cd.takeNum l = some (v, r)) (hm : most < 0) :
    Calls Tryz.prog 90 #[.slice A n cap, .int .i64 most] w (GivesTextN w none) := by
  have htn := rtakenum_own A n cap l w hl hc hn
  rw [h] at htn
  have Htn := Lib.hid htn
  clear htn h
  go_enter Tryz.func90, Tryz.ntmps90
  go_wp2_with (first | (go_at_call 89; refine Htn.out.mono ?_; rintro e w1 ⟨A1, c1, rfl, ho1, hb1⟩; have hr1 := ho1.rd; have hc1 := ho1.cap))
  go_ret3
  exact ⟨rfl, hb1⟩
set_option maxRecDepth 100000 in
theorem rtakeown_out (A : Option Addr) (n cap v m : Nat) (l r : List Nat) (w : World) (hl : Rd w A n l) (hc : n ≤ cap) (hn : n ≤ 1000000) (hm : m < 9223372036854775808) (h : Cd.takeNum l = some (v, r)) (hv : m < v ∨ r.length < v) :
    Calls Tryz.prog 90 #[.slice A n cap, .int .i64 (m : Int)] w (GivesTextN w none) := by
  have htn := rtakenum_own A n cap l w hl hc hn
  have hbd := (takeNum_bound h).2.1
  have hw1 := wrap_u64_nat m (by omega)
  have hw2 := wrap_u64_nat r.length (by rw [hl.1] at hbd; omega)
  rw [h] at htn
  have Htn := Lib.hid htn
  clear htn h hm hbd
  by_cases hmv : m < v
  · have hmv' : (m : Int) < (v : Int) := by omega
    clear hv
    go_enter Tryz.func90, Tryz.ntmps90
    go_wp2_with (first | (go_at_call 89; refine Htn.out.mono ?_; rintro e w1 ⟨A1, c1, rfl, ho1, hb1⟩; have hr1 := ho1.rd; have hc1 := ho1.cap))
    go_ret3
    exact ⟨rfl, hb1⟩
  · have hmv' : ¬ (m : Int) < (v : Int) := by omega
    have hrv : (r.length : Int) < (v : Int) := by omega
    clear hv
    go_enter Tryz.func90, Tryz.ntmps90
    go_wp2_with (first | (go_at_call 89; refine Htn.out.mono ?_; rintro e w1 ⟨A1, c1, rfl, ho1, hb1⟩; have hr1 := ho1.rd; have hc1 := ho1.cap))
    go_ret3
    exact ⟨rfl, hb1⟩
set_option maxRecDepth 100000 in
theorem rtakeown_in (A : Option Addr) (n cap v m : Nat) (l r : List Nat) (w : World) (hl : Rd w A n l) (hc : n ≤ cap) (hn : n ≤ 1000000) (hm : m < 9223372036854775808) (h : Cd.takeNum l = some (v, r)) (hmv : v ≤ m) (hrv : v ≤ r.length) :
    Calls Tryz.prog 90 #[.slice A n cap, .int .i64 (m : Int)] w (GivesTextN w (some (r.take v, r.drop v))) := by
  have htn := rtakenum_own A n cap l w hl hc hn
  have hbd := (takeNum_bound h).2.1
  rw [hl.1] at hbd
  have hw1 := wrap_u64_nat m (by omega)
  have hw2 := wrap_u64_nat r.length (by omega)
  rw [h] at htn
  have Htn := Lib.hid htn
  clear htn h hm
  have hmv' : ¬ (m : Int) < (v : Int) := by omega
  have hrv' : ¬ (r.length : Int) < (v : Int) := by omega
  go_enter Tryz.func90, Tryz.ntmps90
  go_wp2_with (first | (go_at_call 89; refine Htn.out.mono ?_; rintro e w1 ⟨A1, c1, rfl, ho1, hb1⟩; have hr1 := ho1.rd; have hc1 := ho1.cap))
  have hcv : (convert 51 9 (.slice A1 v c1)).run Tryz.prog w1.drew = .ok (.string (str (r.take v))) w1.drew := run_str (hr1.take hrv).drew
  have hcr := cut_rd hr1 hrv hc1
  have hbk : ∀ b o, (if c1 = v then A1 else Option.map (fun x => x.add v) A1) = some ⟨b, o, none⟩ → w.heap.size ≤ b ∧ b < w1.heap.size := by
    intro b o e
    split at e
    · exact ho1.blk b (by rw [e]; simp [Value.ownBlock])
    · rcases A1 with _ | ⟨b2, o2, s2⟩
      · cases e
      · have hbb : b2 = b := by
          have e2 : (⟨b2, o2, s2⟩ : Addr).add v = ⟨b, o, none⟩ := by injection e
          unfold Addr.add at e2
          split at e2
          · injection e2
          · injection e2
        subst hbb
        exact ho1.blk b2 (by simp [Value.ownBlock])
  have Hbk := Lib.hid hbk
  clear hbk
  have hld : (r.drop v).length = r.length - v := List.length_drop
  have Hld := Lib.hid hld
  clear hld
  go_region
  generalize (if c1 = v then A1 else Option.map (fun x => x.add v) A1) = B at hcr Hbk ⊢
  go_wp2
  go_ret3
  refine ⟨B, c1 - v, ?_⟩
  rw [Hld.out]
  exact ⟨rfl, hcr.drew, by omega, hb1.drew, Hbk.out⟩
theorem rtakeown_any (A : Option Addr) (n cap : Nat) (most : Int) (l : List Nat) (w : World) (hl : Rd w A n l) (hc : n ≤ cap) (hn : n ≤ 1000000) (hm : most ≤ 9223372036854775807) :
    Calls Tryz.prog 90 #[.slice A n cap, .int .i64 most] w (GivesTextN w (Cd.takeText l most)) := by
  unfold Cd.takeText
  rcases h : Cd.takeNum l with _ | ⟨v, r⟩
  · exact rtakeown_none A n cap most l w hl hc hn h
  · show Calls _ _ _ _ (GivesTextN w (if most < 0 ∨ most < (v : Int) ∨ r.length < v then none else some (r.take v, r.drop v)))
    by_cases hneg : most < 0
    · rw [if_pos (.inl hneg)]
      exact rtakeown_neg A n cap v most l r w hl hc hn h hneg
    · obtain ⟨m, rfl⟩ := Int.eq_ofNat_of_zero_le (show 0 ≤ most by omega)
      by_cases hv : m < v ∨ r.length < v
      · rw [if_pos (by rcases hv with h1 | h1 <;> omega)]
        exact rtakeown_out A n cap v m l r w hl hc hn (by omega) h hv
      · rw [if_neg (by omega)]
        exact rtakeown_in A n cap v m l r w hl hc hn (by omega) h (by omega) (by omega)
end Go.Proofs.YthfcjlndaajkfaaGreat
namespace Go.Proofs.YthfcjlndaajkfaaGreat
open Go.RowKit
set_option linter.unusedVariables false
set_option linter.unusedSimpArgs false
namespace Ed
/-- A number is taken: the number, what is left, may it go on. -/
def dN (r : List Nat) (ok : Bool) : Int × List Nat × Bool :=
  match Cd.takeNum r with
  | none => (0, r, false)
  | some (v, r') => if 2199023255552 < v then (0, r, false) else ((v : Int), r', ok)
def dT (r : List Nat) (ok : Bool) : ByteArray × List Nat × Bool :=
  match Cd.takeText r 64 with
  | none => (⟨#[]⟩, r, false)
  | some (t, r') => (str t, r', ok)
end Ed
/-- Block rb is a reader that has r before it, in A's row. -/
def Rr (w : World) (rb : Nat) (A : Option Addr) (cap : Nat) (r : List Nat) (ok : Bool) : Prop := Holds w rb [.slice A r.length cap, .bool ok] ∧ Rd w A r.length r ∧ r.length ≤ cap ∧ r.length ≤ 1000000 ∧ (0 < r.length → blkOf A ≠ some rb)
theorem Rr.below {w w' : World} {rb cap : Nat} {A : Option Addr} {r : List Nat} {ok : Bool} (h : Rr w rb A cap r ok) (hb : Below w.heap.size w w') : Rr w' rb A cap r ok := ⟨h.1.below hb, h.2.1.below hb, h.2.2⟩
theorem Rr.lt {w : World} {rb cap : Nat} {A : Option Addr} {r : List Nat} {ok : Bool} (h : Rr w rb A cap r ok) : rb < w.heap.size := h.1.1
theorem Rr.blk {w : World} {rb cap : Nat} {A : Option Addr} {r : List Nat} {ok : Bool} (h : Rr w rb A cap r ok) (h0 : 0 < r.length) {g : Nat} (hg : blkOf A = some g) : g < w.heap.size := by
  obtain ⟨b, o, hA, hb, _⟩ := h.2.1.2.2 h0
  rw [hA] at hg
  injection hg with hg
  have : b = g := hg
  omega
/-- A row that the reader doesn't lie in grows. -/
theorem Rr.grown {w w' : World} {rb cap : Nat} {A : Option Addr} {r : List Nat} {ok : Bool} {row : Option Nat} (h : Rr w rb A cap r ok) (hg : w.grownBy w' row) (h1 : row ≠ some rb) (h2 : 0 < r.length → blkOf A ≠ row) : Rr w' rb A cap r ok :=
  ⟨h.1.grown hg h1, h.2.1.grownBy hg h2, h.2.2⟩
/-- What a step of the reader gives; the row before it is as it was, or new. -/
def GivesD (w : World) (rb : Nat) (A : Option Addr) (r0 : List Nat) (v : Value) (r : List Nat) (ok : Bool) (e : Ending) (w' : World) : Prop :=
  e = .returned v ∧ (∃ A' cap', Rr w' rb A' cap' r ok ∧ ((A' = A ∧ r = r0) ∨ (0 < r.length → ∀ g, blkOf A' = some g → w.heap.size ≤ g))) ∧ Two w w' rb rb
theorem Rr.clear {w : World} {A A' : Option Addr} {r r0 : List Nat} {g : Nat} (h : (A' = A ∧ r = r0) ∨ (0 < r.length → ∀ g, blkOf A' = some g → w.heap.size ≤ g)) (hg : g < w.heap.size) (h0 : 0 < r0.length → blkOf A ≠ some g) : 0 < r.length → blkOf A' ≠ some g := fun hn e => by
  rcases h with ⟨rfl, rfl⟩ | h
  · exact h0 hn e
  · have := h hn g e
    omega
theorem takeNum_few {r r' : List Nat} {v : Nat} (h : Cd.takeNum r = some (v, r')) : r'.length ≤ r.length := (takeNum_bound h).2.1
theorem takeText_few {r r' t : List Nat} {m : Int} (h : Cd.takeText r m = some (t, r')) : r'.length ≤ r.length := by
  unfold Cd.takeText at h
  split at h
  · cases h
  · rename_i v r2 h2
    split at h
    · cases h
    · injection h with h
      injection h with h3 h4
      have := takeNum_few h2
      rw [← h4, List.length_drop]
      omega
set_option maxRecDepth 100000 in
theorem dnum_any (rb : Nat) (r : List Nat) (ok : Bool) (w : World) (A : Option Addr) (cap : Nat) (h : Rr w rb A cap r ok) :
    Calls Tryz.prog 58 #[.pointer (some ⟨rb, 0, none⟩)] w (GivesD w rb A r (.int .i64 (Ed.dN r ok).1) (Ed.dN r ok).2.1 (Ed.dN r ok).2.2) := by
  obtain ⟨hH, hR, hc, hn, hne⟩ := h
  have x0 := hH.at_ 0 rfl
  have C := Lib.hid (rtakenum_own A r.length cap r w hR hc hn)
  have HH := Lib.hid hH
  have HR := Lib.hid hR
  have HF := Lib.hid (And.intro hc (And.intro hn hne))
  unfold Ed.dN
  rcases htk : Cd.takeNum r with _ | ⟨v, r'⟩
  · rw [htk] at C
    clear hH hR hc hn hne htk
    go_enter Tryz.func58, Tryz.ntmps58
    go_wp2_with fail
    refine C.out.mono ?_
    rintro e w1 ⟨rfl, hb1⟩
    have HH1 := Lib.hid (HH.out.below hb1)
    have x1 := HH1.out.at_ 1 rfl
    have g1 := HH1.out.2.2 1
    have HG := Lib.hid (Two.ab ((show w.grownBy w1 (some rb) from (grown_of_below hb1).but _).trans (grown_cell w1 rb 1 (.bool false))) rb)
    have HX := Lib.hid (show Rr (w1.setCell ⟨rb, 1, none⟩ (.bool false)) rb A cap r false from ⟨HH1.out.set 1 _ (by simp), (HR.out.below hb1).grownBy (grown_cell w1 rb 1 (.bool false)) HF.out.2.2, HF.out.1, HF.out.2.1, HF.out.2.2⟩)
    clear x0 hb1
    go_wp2
    go_ret
    exact ⟨rfl, ⟨A, cap, HX.out, .inl ⟨rfl, rfl⟩⟩, HG.out⟩
  · have HL := Lib.hid (takeNum_few htk)
    rw [htk] at C
    have hv := (takeNum_bound htk).1
    clear hH hR hc hn hne htk
    by_cases hbig : 2199023255552 < v
    · have hbi : (2199023255552 : Int) < (v : Int) := by omega
      simp only [if_pos hbig]
      go_enter Tryz.func58, Tryz.ntmps58
      go_wp2_with fail
      refine C.out.mono ?_
      rintro e w1 ⟨A1, c1, rfl, ho1, hb1⟩
      have HH1 := Lib.hid (HH.out.below hb1)
      have x1 := HH1.out.at_ 1 rfl
      have g1 := HH1.out.2.2 1
      have HG := Lib.hid (Two.ab ((show w.grownBy w1 (some rb) from (grown_of_below hb1).but _).trans (grown_cell w1 rb 1 (.bool false))) rb)
      have HX := Lib.hid (show Rr (w1.setCell ⟨rb, 1, none⟩ (.bool false)) rb A cap r false from ⟨HH1.out.set 1 _ (by simp), (HR.out.below hb1).grownBy (grown_cell w1 rb 1 (.bool false)) HF.out.2.2, HF.out.1, HF.out.2.1, HF.out.2.2⟩)
      clear x0 hb1 ho1
      go_wp2
      go_ret
      exact ⟨rfl, ⟨A, cap, HX.out, .inl ⟨rfl, rfl⟩⟩, HG.out⟩
    · have hbi : ¬ (2199023255552 : Int) < (v : Int) := by omega
      have hwv : IntKind.i64.wrap (v : Int) = (v : Int) := by rw [IntKind.wrap_i64]; omega
      simp only [if_neg hbig]
      go_enter Tryz.func58, Tryz.ntmps58
      go_wp2_with fail
      refine C.out.mono ?_
      rintro e w1 ⟨A1, c1, rfl, ho1, hb1⟩
      have HH1 := Lib.hid (HH.out.below hb1)
      have x1 := HH1.out.at_ 0 rfl
      have g1 := HH1.out.2.2 0
      have hbr : blkOf A1 ≠ some rb := fun e => by have h1 := (ho1.blk rb (by rw [ownBlock_eq]; exact e)).1; have := HH.out.1; omega
      have HG := Lib.hid (Two.ab ((show w.grownBy w1 (some rb) from (grown_of_below hb1).but _).trans (grown_cell w1 rb 0 (.slice A1 r'.length c1))) rb)
      have HX := Lib.hid (show Rr (w1.setCell ⟨rb, 0, none⟩ (.slice A1 r'.length c1)) rb A1 c1 r' ok from ⟨HH1.out.set 0 _ (by simp), ho1.rd.grownBy (grown_cell w1 rb 0 (.slice A1 r'.length c1)) (fun _ => hbr), ho1.cap, by have := HL.out; have := HF.out.2.1; omega, fun _ => hbr⟩)
      have HNw := Lib.hid (show 0 < r'.length → ∀ g, blkOf A1 = some g → w.heap.size ≤ g from fun _ g e => (ho1.blk g (by rw [ownBlock_eq]; exact e)).1)
      clear x0 hb1 ho1 hbr
      go_wp2
      go_ret
      exact ⟨rfl, ⟨A1, c1, HX.out, .inr HNw.out⟩, HG.out⟩
set_option maxRecDepth 100000 in
theorem dtext_any (rb : Nat) (r : List Nat) (ok : Bool) (w : World) (A : Option Addr) (cap : Nat) (h : Rr w rb A cap r ok) :
    Calls Tryz.prog 60 #[.pointer (some ⟨rb, 0, none⟩)] w (GivesD w rb A r (.string (Ed.dT r ok).1) (Ed.dT r ok).2.1 (Ed.dT r ok).2.2) := by
  obtain ⟨hH, hR, hc, hn, hne⟩ := h
  have x0 := hH.at_ 0 rfl
  have C := Lib.hid (rtakeown_any A r.length cap 64 r w hR hc hn (by omega))
  have HH := Lib.hid hH
  have HR := Lib.hid hR
  have HF := Lib.hid (And.intro hc (And.intro hn hne))
  unfold Ed.dT
  rcases htk : Cd.takeText r 64 with _ | ⟨t, r'⟩
  · rw [htk] at C
    clear hH hR hc hn hne htk
    go_enter Tryz.func60, Tryz.ntmps60
    go_wp2_with fail
    refine C.out.mono ?_
    rintro e w1 ⟨rfl, hb1⟩
    have HH1 := Lib.hid (HH.out.below hb1)
    have x1 := HH1.out.at_ 1 rfl
    have g1 := HH1.out.2.2 1
    have HG := Lib.hid (Two.ab ((show w.grownBy w1 (some rb) from (grown_of_below hb1).but _).trans (grown_cell w1 rb 1 (.bool false))) rb)
    have HX := Lib.hid (show Rr (w1.setCell ⟨rb, 1, none⟩ (.bool false)) rb A cap r false from ⟨HH1.out.set 1 _ (by simp), (HR.out.below hb1).grownBy (grown_cell w1 rb 1 (.bool false)) HF.out.2.2, HF.out.1, HF.out.2.1, HF.out.2.2⟩)
    clear x0 hb1
    go_wp2
    go_ret
    exact ⟨rfl, ⟨A, cap, HX.out, .inl ⟨rfl, rfl⟩⟩, HG.out⟩
  · have HL := Lib.hid (takeText_few htk)
    rw [htk] at C
    clear hH hR hc hn hne htk
    go_enter Tryz.func60, Tryz.ntmps60
    go_wp2_with fail
    refine C.out.mono ?_
    rintro e w1 ⟨A1, c1, rfl, hr1, hc1, hb1, hk1⟩
    have HH1 := Lib.hid (HH.out.below hb1)
    have x1 := HH1.out.at_ 0 rfl
    have g1 := HH1.out.2.2 0
    have hbr : 0 < r'.length → blkOf A1 ≠ some rb := fun h0 e => by
      obtain ⟨b, o, rfl, _⟩ := hr1.2.2 h0
      have h1 := (hk1 b o rfl).1
      injection e with e
      have e : b = rb := e
      have := HH.out.1
      omega
    have HG := Lib.hid (Two.ab ((show w.grownBy w1 (some rb) from (grown_of_below hb1).but _).trans (grown_cell w1 rb 0 (.slice A1 r'.length c1))) rb)
    have HX := Lib.hid (show Rr (w1.setCell ⟨rb, 0, none⟩ (.slice A1 r'.length c1)) rb A1 c1 r' ok from ⟨HH1.out.set 0 _ (by simp), hr1.grownBy (grown_cell w1 rb 0 (.slice A1 r'.length c1)) hbr, hc1, by have := HL.out; have := HF.out.2.1; omega, hbr⟩)
    have HNw := Lib.hid (show 0 < r'.length → ∀ g, blkOf A1 = some g → w.heap.size ≤ g from fun h0 g e => by
      obtain ⟨b, o, rfl, _⟩ := hr1.2.2 h0
      have h1 := (hk1 b o rfl).1
      injection e with e
      have e : b = g := e
      omega)
    clear x0 hb1 hr1 hbr hk1
    go_wp2
    go_ret
    exact ⟨rfl, ⟨A1, c1, HX.out, .inr HNw.out⟩, HG.out⟩
end Go.Proofs.YthfcjlndaajkfaaGreat
