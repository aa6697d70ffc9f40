/- All messages of a book, by their numbers. -/
import Derived.Test.YthganbbiclmgpaaPrBook
import Derived.Test.YthganbbiclmgpaaPrSort
import Derived.Carry
namespace Go.Proofs.Ythganbbiclmgpaa
open Go.RowKit
namespace Pr
def flat (L : List Mg) : List Value := L.flatMap Mg.cells
theorem flat_length (l : List Mg) : (flat l).length = l.length * 5 := by
  induction l with
  | nil => rfl
  | cons v vs ih => show (v.cells ++ flat vs).length = _; rw [List.length_append, ih, List.length_cons]; simp [Mg.cells]; omega
theorem flat_append (a b : List Mg) : flat (a ++ b) = flat a ++ flat b := by unfold flat; rw [List.flatMap_append]
theorem flat_snoc (a : List Mg) (m : Mg) : flat (a ++ [m]) = flat a ++ m.cells := by rw [flat_append]; simp [flat]
theorem flat_at {l : List Mg} {i j : Nat} {v : Mg} {u : Value} (h : l[i]? = some v) (hj : v.cells[j]? = some u) : (flat l)[i * 5 + j]? = some u := by
  have hj3 : j < 5 := (List.getElem?_eq_some_iff.1 hj).1
  induction l generalizing i with
  | nil => simp at h
  | cons x xs ih =>
    show (x.cells ++ flat xs)[i * 5 + j]? = _
    have h3 : x.cells.length = 5 := rfl
    cases i with
    | zero =>
      simp at h
      subst h
      rw [List.getElem?_append_left (by rw [h3]; omega), Nat.zero_mul, Nat.zero_add]
      exact hj
    | succ i =>
      simp only [List.getElem?_cons_succ] at h
      rw [List.getElem?_append_right (by rw [h3]; omega), h3, show (i + 1) * 5 + j - 5 = i * 5 + j by omega]
      exact ih h
theorem cells_one (x : Mg) : ∀ u ∈ x.cells, u.oneCell' = true := by
  intro u hu
  simp only [Mg.cells, List.mem_cons, List.not_mem_nil, or_false] at hu
  rcases hu with rfl | rfl | rfl | rfl | rfl <;> rfl
theorem flat_one (l : List Mg) : ∀ u ∈ flat l, u.oneCell' = true := by
  intro u hu
  obtain ⟨x, _, hx⟩ := List.mem_flatMap.1 hu
  exact cells_one x u hx
/-- What has been drawn of a book: these numbers, and none that is still to come. -/
def Drawn (L : List Mg) (left : Lit → Bool) (xs : List Int) : Prop :=
  xs.Nodup ∧ (∀ q, q ∈ xs ↔ hasq L q = true ∧ left (.int .i64 q) = false) ∧ ∀ q, left (.int .i64 q) = true → hasq L q = true
theorem drawn_start (L : List Mg) : Drawn L (Maps.has (dat L)) [] := ⟨List.nodup_nil, fun q => by simp [has_dat], fun q h => by rwa [has_dat] at h⟩
theorem drawn_step {L : List Mg} {left : Lit → Bool} {xs : List Int} (h : Drawn L left xs) {q : Int} (hq : left (.int .i64 q) = true) : Drawn L (fun z => left z && !z.sameKey (.int .i64 q)) (xs ++ [q]) := by
  obtain ⟨h1, h2, h3⟩ := h
  have hn : q ∉ xs := fun hx => by have := ((h2 q).1 hx).2; rw [hq] at this; cases this
  refine ⟨List.nodup_append.2 ⟨h1, by simp, fun a ha c hc e => ?_⟩, fun p => ?_, fun p hp => ?_⟩
  · simp at hc; subst hc; subst e; exact hn ha
  · simp only [List.mem_append, List.mem_singleton, Bool.and_eq_false_iff, Bool.not_eq_false']
    constructor
    · rintro (hp | rfl)
      · exact ⟨((h2 p).1 hp).1, .inl ((h2 p).1 hp).2⟩
      · exact ⟨h3 _ hq, .inr (WideAt.sameKey_self trivial)⟩
    · rintro ⟨a, b | b⟩
      · exact .inl ((h2 p).2 ⟨a, b⟩)
      · right
        have := WideAt.sameKey_eq b
        injection this
  · simp only [Bool.and_eq_true] at hp
    exact h3 p hp.1
theorem nodup_le : ∀ {xs ys : List Int}, xs.Nodup → (∀ x ∈ xs, x ∈ ys) → xs.length ≤ ys.length
  | [], _, _, _ => Nat.zero_le _
  | x :: xs, ys, h, hs => by
    obtain ⟨h1, h2⟩ := List.nodup_cons.1 h
    have hx : x ∈ ys := hs x (by simp)
    have := nodup_le h2 (ys := ys.erase x) (fun y hy => (List.mem_erase_of_ne (fun e => h1 (by rw [← e]; exact hy))).2 (hs y (by simp [hy])))
    rw [List.length_erase_of_mem hx] at this
    have := List.length_pos_of_mem hx
    simp only [List.length_cons]
    omega
theorem drawn_len {L : List Mg} {left : Lit → Bool} {xs : List Int} (h : Drawn L left xs) : xs.length ≤ L.length := by
  have : xs.length ≤ (nums L).length := by
    refine nodup_le h.1 fun q hq => ?_
    obtain ⟨x, hx, e⟩ := hasq_yes.1 ((h.2.1 q).1 hq).1
    exact List.mem_map.2 ⟨x, hx, e⟩
  simpa [nums] using this
theorem drawn_end {L : List Mg} {left : Lit → Bool} {xs : List Int} (hr : Ris L) (h : Drawn L left xs) (hl : ∀ kl, left kl = false) : (xs.mergeSort fun x y => decide (x ≤ y)) = nums L := by
  have hp : xs.Perm (nums L) := by
    refine (List.perm_ext_iff_of_nodup h.1 ((nums_sorted hr).imp (fun h e => by omega))).2 fun q => ?_
    rw [h.2.1 q]
    constructor
    · rintro ⟨a, _⟩
      obtain ⟨x, hx, e⟩ := hasq_yes.1 a
      exact List.mem_map.2 ⟨x, hx, e⟩
    · intro hq
      obtain ⟨x, hx, e⟩ := List.mem_map.1 hq
      exact ⟨hasq_yes.2 ⟨x, hx, e⟩, hl _⟩
  refine sorted_eq hr hp (List.mergeSort_perm _ _) ?_
  have := List.pairwise_mergeSort (le := fun x y : Int => decide (x ≤ y)) (fun a b c h1 h2 => by simp at *; omega) (fun a b => by simp; omega) xs
  exact this.imp (fun h => by simpa using h)
end Pr
/-- A slice of messages. -/
def RdP (w : World) (A : Option Addr) (n : Nat) (l : List Pr.Mg) : Prop := l.length = n ∧ RdC 5 w A n (Pr.flat l)
theorem RdP.below {w w' : World} {A : Option Addr} {n : Nat} {l : List Pr.Mg} (h : RdP w A n l) (hb : Below w.heap.size w w') : RdP w' A n l := ⟨h.1, h.2.below hb⟩
theorem RdP.at_ {w : World} {A : Option Addr} {n k : Nat} {l : List Pr.Mg} {v : Pr.Mg} (h : RdP w A n l) (hv : l[k]? = some v) : ∃ b o, A = some ⟨b, o, none⟩ ∧ b < w.heap.size ∧ ∀ j u, v.cells[j]? = some u → w.cell? ⟨b, o + (k * 5 + j), none⟩ = some u := by
  have hk : k < n := by rw [← h.1]; exact (List.getElem?_eq_some_iff.1 hv).1
  obtain ⟨b, o, rfl, hb, hc⟩ := h.2.2 (by omega)
  exact ⟨b, o, rfl, hb, fun j u hu => hc _ u (Pr.flat_at hv hu)⟩
set_option maxRecDepth 100000 in
theorem oneI : One 93 3 (.int .i64 0) 8 := ⟨by kernel_rfl, Try.underlying93, rfl, by omega⟩
set_option maxRecDepth 100000 in
theorem manyP : Many 5 52 59 (.agg Pr.zero.cells.toArray) 48 := ⟨by kernel_rfl, Try.underlying52, rfl, by omega, by omega⟩
/-- All messages, in memory of the call's own. -/
def GivesAll (w : World) (L : List Pr.Mg) (e : Ending) (w' : World) : Prop :=
  ∃ A cap, e = .returned (.slice A L.length cap) ∧ RdP w' A L.length L ∧ Below w.heap.size w w' ∧ L.length ≤ cap ∧ (∀ b o, A = some ⟨b, o, none⟩ → w.heap.size ≤ b)
section
variable (w : World) {ops : Array Oper} {rest : List Oper} {o : Oper} {a : Act} {Q : Exit → Act → World → Prop}
set_option maxRecDepth 100000 in
theorem next_book (hg : o.guard = none) (it : Operand) (hop : o.op = Op.next it false) (b r n : Nat) (D : DataW Unit) (left : Lit → Bool) (cnt : Nat) (hit : a.eval it = .pointer (some ⟨r, 0, none⟩)) (h : w.ranges Try.prog 3 Pr.elem b r n D left cnt)
    (hDone : (∀ kl, left kl = false) → wpList Try.prog ops Q rest (a.put o.dst (.tuple #[.bool false])) w)
    (hMore : ∀ (q : Int) (v : Value) (w' : World) (cnt' : Nat), left (.int .i64 q) = true → w'.ranges Try.prog 3 Pr.elem b r n D (fun z => left z && !z.sameKey (.int .i64 q)) cnt' → cnt' < cnt → w.grownBy w' (some r) → w'.heap.size = w.heap.size →
      (Instr.entry (.pointer (some ⟨r, 0, none⟩))).run Try.prog w' = .ok (.tuple #[.int .i64 q, v]) w' → wpList Try.prog ops Q rest (a.put o.dst (.tuple #[.bool true, .int .i64 q, v])) w') :
    wpList Try.prog ops Q (o :: rest) a w :=
  wpList_next_ranges w hg it hop 3 keyed Pr.elem (Value.int .i64) (fun v : Value => v) (fun key kl hkey => by obtain ⟨x, rfl, _⟩ := Maps.keyOf_int_inv Try.underlying3 hkey; exact ⟨x, rfl⟩) (fun v y _ => ⟨v, rfl⟩)
    b r n D left cnt hit h (fun _ hl => hDone hl) (fun x c kl y w' cnt' hkey hlk _ _ hrg hlt hgr hsz hen => by
      obtain ⟨x', ex, rfl, _⟩ := Maps.keyOf_int_inv Try.underlying3 hkey
      injection ex with _ ex
      subst ex
      exact hMore x c w' cnt' hlk hrg hlt hgr hsz hen)
end
/-- What holds as the numbers are drawn. -/
def InvDraw (w : World) (b : Nat) (L : List Pr.Mg) (v : Value) (wr : World) : Prop :=
  ∃ xs left cnt A cap, v = .slice A xs.length cap ∧ OwnV wr (w.heap.size + 1) 3 A xs.length cap (xs.map (Value.int .i64)) ∧ wr.ranges Try.prog 3 Pr.elem b w.heap.size L.length (Pr.dat L) left cnt ∧ Pr.Drawn L left xs ∧ Below w.heap.size w wr ∧ w.heap.size + 1 ≤ wr.heap.size
theorem draw_start {w w0 : World} {b : Nat} {L : List Pr.Mg} (h : w0.ranges Try.prog 3 Pr.elem b w.heap.size L.length (Pr.dat L) (Maps.has (Pr.dat L)) (Maps.size (Pr.dat L))) (hg : w.grownBy w0 none) (hs : w0.heap.size = w.heap.size + 1) : InvDraw w b L (.slice none 0 0) w0 :=
  ⟨[], _, _, none, 0, rfl, OwnV.none_ _ _ _, h, Pr.drawn_start L, ⟨hg.os, hg.tape, hg.output, hg.size, fun k hk => hg.block k hk (by simp)⟩, by omega⟩
theorem draw_next {w wr w1 w2 w3 : World} {b cnt' cap cap' : Nat} {L : List Pr.Mg} {xs : List Int} {left : Lit → Bool} {A A' : Option Addr} {q : Int}
    (hb : Below w.heap.size w wr) (hsz : w.heap.size + 1 ≤ wr.heap.size) (hd : Pr.Drawn L left xs) (hq : left (.int .i64 q) = true)
    (hrg : w1.ranges Try.prog 3 Pr.elem b w.heap.size L.length (Pr.dat L) (fun z => left z && !z.sameKey (.int .i64 q)) cnt') (hg1 : wr.grownBy w1 (some w.heap.size)) (hs1 : w1.heap.size = wr.heap.size)
    (hbl : Below w1.heap.size w1 w2) (ho : OwnV w2 (w.heap.size + 1) 3 A xs.length cap (xs.map (Value.int .i64))) (hgr : GrewV w2 w3 (w.heap.size + 1) 3 A A' xs.length cap (xs.length + 1) cap' (xs.map (Value.int .i64) ++ [.int .i64 q])) (hbw : b < w.heap.size) :
    InvDraw w b L (.slice A' (xs.length + 1) cap') w3 ∧ w3.rangeLeft b w.heap.size = cnt' := by
  have hrow : ∀ g, (Value.slice A xs.length cap).ownBlock = some g → w.heap.size + 1 ≤ g := fun g e => (ho.blk g e).1
  have hrg3 := (hrg.kept (grown_of_below hbl) (row := none) (by simp) (by simp)).kept hgr.grew (fun e => by have := hrow _ e.symm; omega) (fun e => by have := hrow _ e.symm; omega)
  have hl : (xs ++ [q]).length = xs.length + 1 := by simp
  have hb1 : Below w.heap.size w w1 := ⟨hg1.os.trans hb.os, hg1.tape.trans hb.tape, hg1.output.trans hb.output, by have := hb.size; omega, fun k hk => (hg1.block k (by omega) (fun e => by injection e with e; omega)).trans (hb.block k hk)⟩
  have hb2 : Below w.heap.size w w2 := hb1.trans (hbl.mono (by omega))
  have hsz2 := hbl.size
  have hsz3 := hgr.grew.size
  refine ⟨⟨xs ++ [q], _, cnt', A', cap', by rw [hl], ?_, hrg3, Pr.drawn_step hd hq, hb2.grown hgr.grew (by omega) (fun g e => by have := hrow g e; omega), by omega⟩, hrg3.left_eq⟩
  have h := hgr.own
  rw [hl, List.map_append]
  exact h
/-- What holds as the row is laid. -/
def InvRow (w1 : World) (L : List Pr.Mg) (v i : Value) (wr : World) : Prop :=
  ∃ (k : Nat) (A' : Option Addr) (cap' : Nat), k ≤ L.length ∧ i = .int .i64 (k : Int) ∧ v = .slice A' k cap' ∧ OwnC 5 wr w1.heap.size 59 A' k cap' (Pr.flat (L.take k)) ∧ Below w1.heap.size w1 wr
theorem row_start (w1 : World) (L : List Pr.Mg) : InvRow w1 L (.slice none 0 0) (.int .i64 0) w1 := ⟨0, none, 0, Nat.zero_le _, rfl, rfl, OwnC.none_ _ _ _ _, Below.refl _ _⟩
theorem row_next {w1 wr w2 w3 : World} {L : List Pr.Mg} {k cap' cap'' : Nat} {A' A'' : Option Addr} {m : Pr.Mg} (hm : L[k]? = some m) (hb : Below w1.heap.size w1 wr) (hbl : Below wr.heap.size wr w2) (ho : OwnC 5 w2 w1.heap.size 59 A' k cap' (Pr.flat (L.take k)))
    (hg : GrewC 5 w2 w3 w1.heap.size 59 A' A'' k cap' (k + 1) cap'' (Pr.flat (L.take k) ++ m.cells)) : InvRow w1 L (.slice A'' (k + 1) cap'') (.int .i64 ((k : Int) + 1)) w3 := by
  have hk := (List.getElem?_eq_some_iff.1 hm).1
  have hs := hb.size
  have hs2 := hbl.size
  refine ⟨k + 1, A'', cap'', hk, by simp, rfl, ?_, (hb.trans (hbl.mono hs)).grown hg.grew (by omega) (fun g e => (ho.blk g e).1)⟩
  rw [List.take_add_one, hm, Option.toList_some, Pr.flat_snoc]
  exact hg.own
theorem all_done {w w1 wr : World} {L : List Pr.Mg} {k cap' : Nat} {A' : Option Addr} (h1 : Below w.heap.size w w1) (hb : Below w1.heap.size w1 wr) (ho : OwnC 5 wr w1.heap.size 59 A' k cap' (Pr.flat (L.take k))) (hk : k = L.length) : GivesAll w L (.returned (.slice A' k cap')) wr := by
  subst hk
  rw [List.take_length] at ho
  refine ⟨A', cap', rfl, ⟨rfl, ho.rd⟩, h1.trans (hb.mono h1.size), ho.fits, fun b o e => ?_⟩
  rcases Nat.eq_zero_or_pos L.length with h0 | h0
  · rcases ho.2 with ⟨hv, _⟩ | ⟨g, c, cur, hv, hg, _⟩
    · injection hv with e2; rw [e] at e2; cases e2
    · injection hv with e2; rw [e] at e2; injection e2 with e2; injection e2 with e2; have := h1.size; omega
  · obtain ⟨g, e2, hg, _⟩ := ho.form h0
    rw [e] at e2; injection e2 with e2; injection e2 with e2; have := h1.size; omega
set_option maxRecDepth 100000 in
set_option maxHeartbeats 4000000 in
theorem all_any (b : Nat) (L : List Pr.Mg) (w : World) (h : Bk w b L) (hr : Pr.Ris L) (hq : ∀ m ∈ L, Q64 m.q) (hl : L.length ≤ 1000) : Calls Try.prog 39 #[.map (some b)] w (GivesAll w L) := by
  have HQ := Lib.hid hq
  have HR := Lib.hid hr
  have hbw := h.lt
  have hSort := Lib.hid (fun A base n cap xs w h hn => sort_any A base n cap xs w h hn)
  clear hq hr
  go_enter Try.func39, Try.ntmps39
  go_wp2_with (at_range; refine wpList_range_own _ rfl _ 80 rfl 3 59 keyed Try.underlying80 Pr.elem b L.length (Pr.dat L) rfl h ?_; intro w0 hrg0 hg0 hs0)
  go_frame
  have HS := Lib.hid (draw_start hrg0 hg0 hs0)
  clear hrg0 hg0 hs0 h
  go_loopw [3] (fun v wr => InvDraw w b L v wr) (fun _ wr => wr.rangeLeft b w.heap.size)
  case atStart => exact HS.out
  case round =>
    clear HS
    obtain ⟨xs, left, cnt, A, cap, rfl, ho, hrg, hd, hb, hsz⟩ := hrel
    have hxl := Pr.drawn_len hd
    have HD := Lib.hid hd
    have HO := Lib.hid ho
    have HB := Lib.hid hb
    have HG := Lib.hid hrg
    have HC := Lib.hid hrg.left_eq
    clear hd ho hb hrg
    go_wp2_with (at_next; refine next_book _ rfl _ rfl b w.heap.size L.length (Pr.dat L) left cnt rfl HG.out ?_ ?_)
    · intro hdone
      have hsrt := Pr.drawn_end HR.out HD.out hdone
      have HO3 := Lib.hid HO.out
      have hxs : xs.length ≤ 1000000 := by omega
      have Hs := Lib.hid hsrt
      have hle : L.length = xs.length := by
        have : (xs.mergeSort fun x y => decide (x ≤ y)).length = (Pr.nums L).length := by rw [hsrt]
        rw [List.length_mergeSort] at this
        simpa [Pr.nums] using this.symm
      have HLe := Lib.hid hle
      clear hdone hsrt hle
      go_wp2_with fail
      refine (hSort.out _ _ _ _ _ _ HO3.out hxs).mono ?_
      rintro e w1 ⟨rfl, hrd, hgr⟩
      obtain ⟨wo, rfl⟩ : ∃ wo : World, wo = wr := ⟨_, rfl⟩
      rw [Hs.out] at hrd
      have hrow : ∀ g, (Value.slice A xs.length cap).ownBlock = some g → w.heap.size + 1 ≤ g := fun g e => (HO3.out.blk g e).1
      have HBk := Lib.hid (Bk.kept (Bk.of HG.out.owns) hgr (fun e => by have := hrow _ e.symm; omega))
      have HBel := Lib.hid (HB.out.grown hgr (by omega) (fun g e => by have := hrow g e; omega))
      have HRd := Lib.hid hrd
      have hlel : L.length ≤ xs.length := by have := HLe.out; omega
      have hxsm : (xs.length : Int) ≤ 1000000 := by omega
      have HR0 := Lib.hid (row_start w1 L)
      clear hrd hgr hrow
      go_wp2_with fail
      go_loopw [5, 22] (fun v i wq => InvRow w1 L v i wq) (fun _ i _ => xs.length - (intOf i).toNat)
      case atStart => exact HR0.out
      case round =>
        clear HR0
        obtain ⟨k, A', cap', hk, rfl, rfl, ho, hb⟩ := hrel
        by_cases hlt : k < xs.length
        · have hkL : k < L.length := by have := HLe.out; omega
          obtain ⟨m, hm⟩ : ∃ m, L[k]? = some m := ⟨_, List.getElem?_eq_getElem hkL⟩
          have HM := Lib.hid hm
          have hmm := List.mem_of_getElem? hm
          obtain ⟨b', o', v, rfl, hb', hv, hc⟩ := (HRd.out.below hb).at_ hlt
          have hv2 : v = .int .i64 m.q := by
            rw [List.getElem?_map] at hv
            unfold Pr.nums at hv
            rw [List.getElem?_map, HM.out] at hv
            injection hv with hv
            exact hv.symm
          subst hv2
          have hget := Bk.get (HBk.out.below hb) HR.out hmm (HQ.out _ hmm)
          have HB2 := Lib.hid hb
          have hltI : (k : Int) < (xs.length : Int) := by omega
          have HOA := Lib.hid (ho.alloc (.cells m.cells.toArray 59))
          have HNW := Lib.hid (rdc_new 5 wr 59 m.cells 1 rfl (0, 0))
          have HBA := Lib.hid (show Below wr.heap.size wr (wr.alloc (.cells m.cells.toArray 59)) from (Below.refl _ _).alloc (Nat.le_refl _) _)
          have h1c := Lib.hid (Pr.cells_one m)
          have hle3 : k + 1 ≤ 1000000 := by omega
          have hle4 : w1.heap.size ≤ (wr.alloc (.cells m.cells.toArray 59)).heap.size := by have := hb.size; simp; omega
          clear hb ho hv hk hkL hm hmm
          obtain ⟨mk, mp, mq, ms, mn⟩ := m
          replace hget : (Instr.lookup 80 (.map (some b)) (.int .i64 mq) false).run Try.prog wr = .ok (.agg #[.int .i64 mk, .int .i64 mp, .int .i64 mq, .string ms, .int .i64 mn]) wr := hget
          go_wp2_with (at_builtin; refine wpList_appC manyP rfl (.tmp 26) (.tmp 30) rfl rfl HOA.out ⟨wr.heap.size, 0, none⟩ 1 1 (Pr.Mg.cells ⟨mk, mp, mq, ms, mn⟩) h1c.out rfl HNW.out hle3 hle4 ?_; intro A3 cap3 w3 hg3)
          have HI := Lib.hid (row_next HM.out HB2.out HBA.out HOA.out hg3)
          clear hg3
          go_roundw
          case rel => exact HI.out
          case measure => simp [intOf]; omega
        · have hkn : k = L.length := by have := HLe.out; omega
          have HF := Lib.hid (all_done HBel.out hb ho hkn)
          clear hb ho hkn
          go_wp2
          go_ret
          exact HF.out
    · intro q v w1 cnt' hlq hrg1 hlt1 hg1 hs1 hen
      have hO1 : OwnV w1 (w.heap.size + 1) 3 A xs.length cap (xs.map (Value.int .i64)) := HO.out.grown hg1 (.inr fun g e1 e2 => by injection e1 with e1; have := (HO.out.blk g e2).1; omega)
      have hO2 := hO1.alloc (.cells #[.int .i64 q] 3)
      have hN := Lib.hid (rdv_one w1 3 (.int .i64 q))
      have HX := Lib.hid (And.intro hlq (And.intro hrg1 (And.intro hg1 (And.intro hs1 hlt1))))
      have HO2 := Lib.hid hO2
      have hBL := Lib.hid (show Below w1.heap.size w1 (w1.alloc (.cells #[.int .i64 q] 3)) from (Below.refl _ _).alloc (Nat.le_refl _) _)
      have hle1 : xs.length + 1 ≤ 1000000 := by omega
      have hle2 : w.heap.size + 1 ≤ (w1.alloc (.cells #[.int .i64 q] 3)).heap.size := by simp; omega
      have h1c : ∀ u ∈ [Value.int .i64 q], u.oneCell' = true := by intro u hu; simp at hu; subst hu; rfl
      clear hlq hrg1 hg1 hs1 hlt1 hO1 hO2
      go_wp2_with (at_builtin; refine wpList_appV oneI rfl (.tmp 14) (.tmp 16) rfl rfl HO2.out (some ⟨w1.heap.size, 0, none⟩) 1 1 [.int .i64 q] h1c rfl hN.out hle1 hle2 ?_; intro A' cap' w3 hg3)
      obtain ⟨hlq, hrg1, hg1, hs1, hlt1⟩ := HX.out
      obtain ⟨hI, hM⟩ := draw_next HB.out hsz HD.out hlq hrg1 hg1 hs1 hBL.out HO2.out hg3 hbw
      have hC := HC.out
      clear hrg1 hg1 hs1 hg3 hlq hen
      go_roundw
      case rel => exact hI
      case measure => rw [hM, hC]; exact hlt1
end Go.Proofs.Ythganbbiclmgpaa
