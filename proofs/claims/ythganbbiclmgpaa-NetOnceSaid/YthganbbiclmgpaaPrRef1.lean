/- The document's peer: NewPeer, Sent, Again. -/
import Derived.Test.YthganbbiclmgpaaPrGots
namespace Go.Proofs.Ythganbbiclmgpaa
open Go.RowKit
namespace Pr
/-- A transfer that was sent, and whether it has its ack. -/
structure Out where
  m : Mg
  d : Bool
def Out.cells (x : Out) : List Value := [.int .i64 x.m.k, .int .i64 x.m.p, .int .i64 x.m.q, .string x.m.s, .int .i64 x.m.n, .bool x.d]
def flatO (l : List Out) : List Value := l.flatMap Out.cells
theorem flatO_append (a b : List Out) : flatO (a ++ b) = flatO a ++ flatO b := by unfold flatO; rw [List.flatMap_append]
theorem flatO_length (l : List Out) : (flatO l).length = l.length * 6 := by
  induction l with
  | nil => rfl
  | cons v vs ih => show (v.cells ++ flatO vs).length = _; rw [List.length_append, ih, List.length_cons]; simp [Out.cells]; omega
theorem flatO_at {l : List Out} {i j : Nat} {v : Out} {u : Value} (h : l[i]? = some v) (hj : v.cells[j]? = some u) : (flatO l)[i * 6 + j]? = some u := by
  have hj3 : j < 6 := (List.getElem?_eq_some_iff.1 hj).1
  induction l generalizing i with
  | nil => simp at h
  | cons x xs ih =>
    show (x.cells ++ flatO xs)[i * 6 + j]? = _
    have h3 : x.cells.length = 6 := rfl
    cases i with
    | zero =>
      simp at h
      subst h
      rw [List.getElem?_append_left (by rw [h3]; omega), Nat.zero_mul, Nat.zero_add]
      exact hj
    | succ i =>
      simp only [List.getElem?_cons_succ] at h
      rw [List.getElem?_append_right (by rw [h3]; omega), h3, show (i + 1) * 6 + j - 6 = i * 6 + j by omega]
      exact ih h
theorem out_one (x : Out) : ∀ u ∈ x.cells, u.oneCell' = true := by
  intro u hu
  simp only [Out.cells, List.mem_cons, List.not_mem_nil, or_false] at hu
  rcases hu with rfl | rfl | rfl | rfl | rfl | rfl <;> rfl
theorem flatO_one (l : List Out) : ∀ u ∈ flatO l, u.oneCell' = true := by
  intro u hu
  obtain ⟨x, _, hx⟩ := List.mem_flatMap.1 hu
  exact out_one x u hx
/-- All that were sent; those that are open. -/
def sentL (l : List Out) : List Mg := l.map (·.m)
def openL (l : List Out) : List Mg := (l.filter fun x => !x.d).map (·.m)
theorem sent_snoc {l : List Out} {k : Nat} {x : Out} (h : l[k]? = some x) : sentL (l.take (k + 1)) = sentL (l.take k) ++ [x.m] := by
  unfold sentL; rw [List.take_add_one, h, Option.toList_some, List.map_append]; rfl
theorem open_snoc {l : List Out} {k : Nat} {x : Out} (h : l[k]? = some x) : openL (l.take (k + 1)) = openL (l.take k) ++ (if x.d then [] else [x.m]) := by
  unfold openL
  rw [List.take_add_one, h, Option.toList_some, List.filter_append, List.map_append]
  cases hd : x.d <;> simp [hd]
theorem open_le (l : List Out) : (openL l).length ≤ l.length := by unfold openL; rw [List.length_map]; exact List.length_filter_le _ _
end Pr
/-- A slice of such. -/
def RdO (w : World) (A : Option Addr) (n : Nat) (l : List Pr.Out) : Prop := l.length = n ∧ RdC 6 w A n (Pr.flatO l)
theorem RdO.below {w w' : World} {A : Option Addr} {n : Nat} {l : List Pr.Out} (h : RdO w A n l) (hb : Below w.heap.size w w') : RdO w' A n l := ⟨h.1, h.2.below hb⟩
theorem RdO.at_ {w : World} {A : Option Addr} {n k : Nat} {l : List Pr.Out} {v : Pr.Out} (h : RdO w A n l) (hv : l[k]? = some v) : ∃ b o, A = some ⟨b, o, none⟩ ∧ b < w.heap.size ∧ ∀ j u, v.cells[j]? = some u → w.cell? ⟨b, o + (k * 6 + j), none⟩ = some u := by
  have hk : k < n := by rw [← h.1]; exact (List.getElem?_eq_some_iff.1 hv).1
  obtain ⟨b, o, rfl, hb, hc⟩ := h.2.2 (by omega)
  exact ⟨b, o, rfl, hb, fun j u hu => hc _ u (Pr.flatO_at hv hu)⟩
theorem RdO.nil (w : World) (A : Option Addr) : RdO w A 0 [] := ⟨rfl, RdC.nil _ _ _⟩
theorem RdP.nil (w : World) (A : Option Addr) : RdP w A 0 [] := ⟨rfl, RdC.nil _ _ _⟩
set_option maxRecDepth 100000 in
theorem manyO : Many 6 51 89 (.agg #[.int .i64 0, .int .i64 0, .int .i64 0, .string ⟨#[]⟩, .int .i64 0, .bool false]) 56 := ⟨by kernel_rfl, Try.underlying51, rfl, by omega, by omega⟩
set_option maxRecDepth 100000 in
theorem rnew_ok (n : Int) (w : World) (h1 : 1 ≤ n) (h2 : n ≤ 15) : Calls Try.prog 22 #[.int .i64 n] w fun e w' => e = .returned (.tuple #[.agg #[.int .i64 n, .slice none 0 0, .slice none 0 0], .int .i64 0]) ∧ Below w.heap.size w w' := by
  have q1 : ¬ n < 1 := by omega
  have q2 : ¬ 15 < n := by omega
  go_enter Try.func22, Try.ntmps22
  go_wp2
  refine ⟨rfl, .tuple #[.agg #[.int .i64 n, .slice none 0 0, .slice none 0 0], .int .i64 0], ?_, rfl, by first | exact (Below.refl _ _).alloc (Nat.le_refl _) _ | exact ((((Below.refl _ _).alloc (Nat.le_refl _) _).setCell (Nat.le_refl _) _ _).setCell (Nat.le_refl _) _ _).setCell (Nat.le_refl _) _ _⟩
  simp [results, Try.results22, go_sem]
set_option maxRecDepth 100000 in
theorem rnew_no (n : Int) (w : World) (h : n < 1 ∨ 15 < n) : Calls Try.prog 22 #[.int .i64 n] w fun e w' => e = .returned (.tuple #[.agg #[.int .i64 0, .slice none 0 0, .slice none 0 0], .int .i64 210]) ∧ Below w.heap.size w w' := by
  have key : n < 1 ∨ (¬ n < 1 ∧ 15 < n) := by omega
  clear h
  rcases key with q1 | ⟨q1, q2⟩
  all_goals
    go_enter Try.func22, Try.ntmps22
    go_wp2
    refine ⟨rfl, .tuple #[.agg #[.int .i64 0, .slice none 0 0, .slice none 0 0], .int .i64 210], ?_, rfl, by first | exact (Below.refl _ _).alloc (Nat.le_refl _) _⟩
    simp [results, Try.results22, go_sem]
/-- What holds as a row is laid behind w1. -/
def InvSel (f : List Pr.Out → List Pr.Mg) (w1 : World) (l : List Pr.Out) (v i : Value) (wr : World) : Prop :=
  ∃ (k n : Nat) (A' : Option Addr) (cap' : Nat), k ≤ l.length ∧ n = (f (l.take k)).length ∧ n ≤ k ∧ i = .int .i64 (k : Int) ∧ v = .slice A' n cap' ∧ OwnC 5 wr w1.heap.size 59 A' n cap' (Pr.flat (f (l.take k))) ∧ Below w1.heap.size w1 wr
theorem sel_start (f : List Pr.Out → List Pr.Mg) (h : f [] = []) (w1 : World) (l : List Pr.Out) : InvSel f w1 l (.slice none 0 0) (.int .i64 0) w1 := by
  refine ⟨0, 0, none, 0, Nat.zero_le _, ?_, Nat.le_refl _, rfl, rfl, ?_, Below.refl _ _⟩
  · rw [List.take_zero, h]; rfl
  · rw [List.take_zero, h]; exact OwnC.none_ _ _ _ _
theorem sel_next {f : List Pr.Out → List Pr.Mg} {w1 wr w2 w3 : World} {l : List Pr.Out} {k n cap' cap'' : Nat} {A' A'' : Option Addr} {m : Pr.Mg} (hk : k < l.length) (hm : f (l.take (k + 1)) = f (l.take k) ++ [m]) (hn : n = (f (l.take k)).length) (hnk : n ≤ k) (hb : Below w1.heap.size w1 wr) (hbl : Below wr.heap.size wr w2) (ho : OwnC 5 w2 w1.heap.size 59 A' n cap' (Pr.flat (f (l.take k))))
    (hg : GrewC 5 w2 w3 w1.heap.size 59 A' A'' n cap' (n + 1) cap'' (Pr.flat (f (l.take k)) ++ m.cells)) : InvSel f w1 l (.slice A'' (n + 1) cap'') (.int .i64 ((k : Int) + 1)) w3 := by
  have hs := hb.size
  refine ⟨k + 1, n + 1, A'', cap'', hk, by rw [hm, hn]; simp, by omega, by simp, rfl, ?_, (hb.trans (hbl.mono hs)).grown hg.grew (by have := hbl.size; omega) (fun g e => (ho.blk g e).1)⟩
  rw [hm, Pr.flat_snoc]
  exact hg.own
theorem sel_skip {f : List Pr.Out → List Pr.Mg} {w1 wr : World} {l : List Pr.Out} {k n cap' : Nat} {A' : Option Addr} (hk : k < l.length) (hm : f (l.take (k + 1)) = f (l.take k)) (hn : n = (f (l.take k)).length) (hnk : n ≤ k) (hb : Below w1.heap.size w1 wr) (ho : OwnC 5 wr w1.heap.size 59 A' n cap' (Pr.flat (f (l.take k)))) :
    InvSel f w1 l (.slice A' n cap') (.int .i64 ((k : Int) + 1)) wr :=
  ⟨k + 1, n, A', cap', hk, by rw [hm, hn], by omega, by simp, rfl, by rw [hm]; exact ho, hb⟩
theorem sel_done {f : List Pr.Out → List Pr.Mg} {w w1 wr : World} {l : List Pr.Out} {k n cap' : Nat} {A' : Option Addr} (h1 : Below w.heap.size w w1) (hn : n = (f (l.take k)).length) (hb : Below w1.heap.size w1 wr) (ho : OwnC 5 wr w1.heap.size 59 A' n cap' (Pr.flat (f (l.take k)))) (hk : k = l.length) : GivesAll w (f l) (.returned (.slice A' n cap')) wr := by
  subst hk
  rw [List.take_length] at ho hn
  subst hn
  exact all_done (L := f l) h1 hb (by rw [List.take_length]; exact ho) rfl
set_option maxRecDepth 100000 in
set_option maxHeartbeats 4000000 in
theorem rsent_any (who : Int) (A B : Option Addr) (cap k c : Nat) (l : List Pr.Out) (w : World) (h : RdO w A l.length l) (hl : l.length ≤ 1000) :
    Calls Try.prog 32 #[.agg #[.int .i64 who, .slice A l.length cap, .slice B k c]] w (GivesAll w (Pr.sentL l)) := by
  have hb1 : Below w.heap.size w (w.alloc (.cells #[.int .i64 who, .slice A l.length cap, .slice B k c] 54)) := (Below.refl _ _).alloc (Nat.le_refl _) _
  have HB1 := Lib.hid hb1
  have HL := Lib.hid (h.below hb1)
  have Hbx := Lib.hid (Holds.new w #[.int .i64 who, .slice A l.length cap, .slice B k c] 54)
  clear h hb1
  go_enter Try.func32, Try.ntmps32
  go_upto_region 3 with fail
  generalize (w.alloc (.cells #[.int .i64 who, .slice A l.length cap, .slice B k c] 54)) = w1 at *
  have HR0 := Lib.hid (sel_start Pr.sentL rfl w1 l)
  go_loopw [3, 4] (fun v i wq => InvSel Pr.sentL w1 l v i wq) (fun _ i _ => l.length - (intOf i).toNat)
  case atStart => exact HR0.out
  case round =>
    clear HR0
    obtain ⟨j, n, A', cap', hk, hn, hnk, rfl, rfl, ho, hb⟩ := hrel
    have c1 := (Hbx.out.below hb).at_ 1 rfl
    have HN := Lib.hid hn
    have HB := Lib.hid hb
    clear hn
    by_cases hlt : j < l.length
    · obtain ⟨x, hx⟩ : ∃ x, l[j]? = some x := ⟨_, List.getElem?_eq_getElem hlt⟩
      obtain ⟨b, o, rfl, hbl, hcell⟩ := (HL.out.below hb).at_ hx
      have HX := Lib.hid (Pr.sent_snoc hx)
      have HOA := Lib.hid (ho.alloc (.cells x.m.cells.toArray 59))
      have HNW := Lib.hid (rdc_new 5 wr 59 x.m.cells 1 rfl (0, 0))
      have HBA := Lib.hid (show Below wr.heap.size wr (wr.alloc (.cells x.m.cells.toArray 59)) from (Below.refl _ _).alloc (Nat.le_refl _) _)
      have h1c := Lib.hid (Pr.cells_one x.m)
      have hle3 : n + 1 ≤ 1000000 := by omega
      have hle4 : w1.heap.size ≤ (wr.alloc (.cells x.m.cells.toArray 59)).heap.size := by have := hb.size; simp; omega
      have hki : (j : Int) < (l.length : Int) := by omega
      clear hb ho hx
      obtain ⟨⟨mk, mp, mq, ms, mn⟩, d⟩ := x
      have e0 : wr.cell? ⟨b, o + j * 6, none⟩ = some (.int .i64 mk) := hcell 0 _ rfl
      have e1 : wr.cell? ⟨b, o + j * 6 + 1, none⟩ = some (.int .i64 mp) := hcell 1 _ rfl
      have e2 : wr.cell? ⟨b, o + j * 6 + 2, none⟩ = some (.int .i64 mq) := hcell 2 _ rfl
      have e3 : wr.cell? ⟨b, o + j * 6 + 3, none⟩ = some (.string ms) := hcell 3 _ rfl
      have e4 : wr.cell? ⟨b, o + j * 6 + 4, none⟩ = some (.int .i64 mn) := hcell 4 _ rfl
      clear hcell hbl
      go_wp2_with (at_builtin; refine wpList_appC manyP rfl (.tmp 12) (.tmp 19) rfl rfl HOA.out ⟨wr.heap.size, 0, none⟩ 1 1 (Pr.Mg.cells ⟨mk, mp, mq, ms, mn⟩) h1c.out rfl HNW.out hle3 hle4 ?_; intro A3 cap3 w3 hg3)
      have HI := Lib.hid (sel_next hlt HX.out HN.out hnk HB.out HBA.out HOA.out hg3)
      clear hg3
      go_roundw
      case rel => exact HI.out
      case measure => simp [intOf]; omega
    · have hkn : j = l.length := by omega
      have HF := Lib.hid (sel_done HB1.out HN.out hb ho hkn)
      clear hb ho hkn
      go_wp2
      go_ret
      exact HF.out
set_option maxRecDepth 100000 in
set_option maxHeartbeats 4000000 in
theorem ragain_any (who : Int) (A B : Option Addr) (cap k c : Nat) (l : List Pr.Out) (w : World) (h : RdO w A l.length l) (hl : l.length ≤ 1000) :
    Calls Try.prog 29 #[.agg #[.int .i64 who, .slice A l.length cap, .slice B k c]] w (GivesAll w (Pr.openL l)) := by
  have hb1 : Below w.heap.size w (w.alloc (.cells #[.int .i64 who, .slice A l.length cap, .slice B k c] 54)) := (Below.refl _ _).alloc (Nat.le_refl _) _
  have HB1 := Lib.hid hb1
  have HL := Lib.hid (h.below hb1)
  have Hbx := Lib.hid (Holds.new w #[.int .i64 who, .slice A l.length cap, .slice B k c] 54)
  clear h hb1
  go_enter Try.func29, Try.ntmps29
  go_upto_region 3 with fail
  generalize (w.alloc (.cells #[.int .i64 who, .slice A l.length cap, .slice B k c] 54)) = w1 at *
  have HR0 := Lib.hid (sel_start Pr.openL rfl w1 l)
  go_loopw [3, 4] (fun v i wq => InvSel Pr.openL w1 l v i wq) (fun _ i _ => l.length - (intOf i).toNat)
  case atStart => exact HR0.out
  case round =>
    clear HR0
    obtain ⟨j, n, A', cap', hk, hn, hnk, rfl, rfl, ho, hb⟩ := hrel
    have c1 := (Hbx.out.below hb).at_ 1 rfl
    have HN := Lib.hid hn
    have HB := Lib.hid hb
    clear hn
    by_cases hlt : j < l.length
    · obtain ⟨x, hx⟩ : ∃ x, l[j]? = some x := ⟨_, List.getElem?_eq_getElem hlt⟩
      obtain ⟨b, o, rfl, hbl, hcell⟩ := (HL.out.below hb).at_ hx
      have HX := Lib.hid (Pr.open_snoc hx)
      have HO := Lib.hid ho
      have HOA := Lib.hid (ho.alloc (.cells x.m.cells.toArray 59))
      have HNW := Lib.hid (rdc_new 5 wr 59 x.m.cells 1 rfl (0, 0))
      have HBA := Lib.hid (show Below wr.heap.size wr (wr.alloc (.cells x.m.cells.toArray 59)) from (Below.refl _ _).alloc (Nat.le_refl _) _)
      have h1c := Lib.hid (Pr.cells_one x.m)
      have hle3 : n + 1 ≤ 1000000 := by omega
      have hle4 : w1.heap.size ≤ (wr.alloc (.cells x.m.cells.toArray 59)).heap.size := by have := hb.size; simp; omega
      have hki : (j : Int) < (l.length : Int) := by omega
      clear hb ho hx
      obtain ⟨⟨mk, mp, mq, ms, mn⟩, d⟩ := x
      have e0 : wr.cell? ⟨b, o + j * 6, none⟩ = some (.int .i64 mk) := hcell 0 _ rfl
      have e1 : wr.cell? ⟨b, o + j * 6 + 1, none⟩ = some (.int .i64 mp) := hcell 1 _ rfl
      have e2 : wr.cell? ⟨b, o + j * 6 + 2, none⟩ = some (.int .i64 mq) := hcell 2 _ rfl
      have e3 : wr.cell? ⟨b, o + j * 6 + 3, none⟩ = some (.string ms) := hcell 3 _ rfl
      have e4 : wr.cell? ⟨b, o + j * 6 + 4, none⟩ = some (.int .i64 mn) := hcell 4 _ rfl
      have e5 : wr.cell? ⟨b, o + j * 6 + 5, none⟩ = some (.bool d) := hcell 5 _ rfl
      clear hcell hbl
      cases d with
      | true =>
        have HI := Lib.hid (sel_skip hlt (HX.out.trans (List.append_nil _)) HN.out hnk HB.out HO.out)
        go_wp2
        go_roundw
        case rel => exact HI.out
        case measure => simp [intOf]; omega
      | false =>
        go_wp2_with (at_builtin; refine wpList_appC manyP rfl (.tmp 19) (.tmp 26) rfl rfl HOA.out ⟨wr.heap.size, 0, none⟩ 1 1 (Pr.Mg.cells ⟨mk, mp, mq, ms, mn⟩) h1c.out rfl HNW.out hle3 hle4 ?_; intro A3 cap3 w3 hg3)
        have HI := Lib.hid (sel_next hlt HX.out HN.out hnk HB.out HBA.out HOA.out hg3)
        clear hg3
        go_roundw
        case rel => exact HI.out
        case measure => simp [intOf]; omega
    · have hkn : j = l.length := by omega
      have HF := Lib.hid (sel_done HB1.out HN.out hb ho hkn)
      clear hb ho hkn
      go_wp2
      go_ret
      exact HF.out
end Go.Proofs.Ythganbbiclmgpaa
