/- Edits that came in: with their pairs and their tables' pairs. The statement's edits: not many more than are looked at. -/
import Derived.Test.YthfcjlndaajkfaaGreatG03
import Derived.Test.YthfcjlndaajkfaaGreatG12
import Derived.Test.YthfcjlndaajkfaaGreatTEdLVe
import Derived.Test.YthfcjlndaajkfaaGreatTEdRead
import Derived.Test.YthfcjlndaajkfaaGreatTHeldS
namespace Go.Proofs.YthfcjlndaajkfaaGreat
open Go.ChangeShapes Go.WideShapes Go.ChangeAt Go.RowKit Go.Joins Go.Deep
theorem list15 {α : Type} {cs : List α} (h : cs.length = 15) : ∃ c0 c1 c2 c3 c4 c5 c6 c7 c8 c9 d0 d1 d2 d3 d4, cs = [c0, c1, c2, c3, c4, c5, c6, c7, c8, c9, d0, d1, d2, d3, d4] := by
  match cs, h with
  | [c0, c1, c2, c3, c4, c5, c6, c7, c8, c9, d0, d1, d2, d3, d4], _ => exact ⟨c0, c1, c2, c3, c4, c5, c6, c7, c8, c9, d0, d1, d2, d3, d4, rfl⟩
section
variable {H : Type} {enc : TypeId × Value → H} {W : World} {base : Nat} {v : Value} {d : DataW H} {p : List MemPlace}
theorem cells_edit : Tryz.prog.cellsOf 37 = 15 := by kernel_rfl
set_option maxRecDepth 100000 in
theorem open_edit {q : Nat} {cs : List Value} {y : DataW H × List MemPlace} (hl : cs.length = 15) (h : DataW.trod enc Tryz.prog W 0 (fun _ => true) true q 37 cs = some y) : ∃ s : Ed.Ex, cs = s.1.cells ∧ Ed.ExOk W s := by
  obtain ⟨c0, c1, c2, c3, c4, c5, c6, c7, c8, c9, d0, d1, d2, d3, d4, rfl⟩ := list15 hl
  obtain ⟨xs, n, _, _, _, hlen, hf⟩ := DataW.trod_struct Tryz.underlying37 h
  match xs, hlen with
  | [y0, y1, y2, y3, y4], _ =>
    have h0 := hf 0 _ rfl
    have h1 := hf 1 _ rfl
    have h2 := hf 2 _ rfl
    have h3 := hf 3 _ rfl
    have h4 := hf 4 _ rfl
    simp only [List.getElem?_cons_zero, List.getElem?_cons_succ] at h0 h1 h2 h3 h4
    obtain ⟨kd, rfl, _⟩ := one_int Tryz.underlying33 h0
    obtain ⟨id, rfl, _⟩ := one_int Tryz.underlying3 h1
    obtain ⟨nn, rfl, _⟩ := one_int Tryz.underlying3 h2
    obtain ⟨pid, pep, P, pn, pc, ps, rfl, rfl, rfl, _, hp, hc, hn⟩ := open_place h3
    obtain ⟨⟨⟨tid, tep, Q, qn, qc, sz, lv, ct, lo, hi, tp⟩, qs⟩, he, hfit, hq, hqc, hqn⟩ := open_tableP (by rfl) h4
    replace he : [c6, c7, c8, c9, d0, d1, d2, d3, d4] = ([.int .i64 tid, .int .i64 tep, .slice Q qn qc, .int .i64 sz, .int .i64 lv, .int .i64 ct, .string lo, .string hi, .int .i64 tp] : List Value) := he
    injection he with e0 he
    injection he with e1 he
    injection he with e2 he
    injection he with e3 he
    injection he with e4 he
    injection he with e5 he
    injection he with e6 he
    injection he with e7 he
    injection he with e8 he
    refine ⟨(⟨kd, id, nn, pid, pep, P, pn, pc, ⟨tid, tep, Q, qn, qc, sz, lv, ct, lo, hi, tp⟩⟩, (ps, qs)), ?_, ⟨hp, hc, hn⟩, ⟨hq, hqc, hqn⟩, hfit⟩
    rw [e0, e1, e2, e3, e4, e5, e6, e7, e8]
    rfl
set_option maxRecDepth 100000 in
theorem one_edits {c : Value} {f : Nat} {y : DataW H × List MemPlace} (h : DataW.trod enc Tryz.prog W 0 (fun _ => true) true f 38 [c] = some y) : ∃ (A : Option Addr) (n cap : Nat) (L : List Ed.Ex), c = .slice A n cap ∧ RdEs W A n L ∧ n ≤ cap ∧ n ≤ 9223372036854775807 := by
  obtain ⟨A, n, cap, rfl, hc, hn, hr⟩ := field_elems Tryz.underlying38 cells_edit (by decide) h
  by_cases hp0 : 0 < n
  · obtain ⟨g, o, rfl, hb, he⟩ := hr hp0
    obtain ⟨l, hl, hp⟩ := exists_list (α := Ed.Ex) (P := fun i s => (∀ j u, s.1.cells[j]? = some u → W.cell? ⟨g, o + (i * 15 + j), none⟩ = some u) ∧ Ed.ExOk W s) n (fun i hi => by
      obtain ⟨cs, q, y, h1, h2, h3⟩ := he i hi
      obtain ⟨s, rfl, hs⟩ := open_edit h1 h3
      exact ⟨s, h2, hs⟩)
    refine ⟨some ⟨g, o, none⟩, n, cap, l, rfl, ⟨hl, ⟨by rw [show (Ed.eflat (l.map (·.1))).length = (l.map (·.1)).length * 15 from Pk.flatMap_length (f := Ed.Er.cells) (fun _ => rfl) _, List.length_map, hl], fun _ => ⟨g, o, rfl, hb, fun j u hu => ?_⟩⟩, fun q hq => ?_⟩, hc, hn⟩
    · obtain ⟨q, h1, h2⟩ := Pk.flat_get (f := Ed.Er.cells) (s := 15) (by omega) (fun _ => rfl) hu
      rw [List.getElem?_map] at h1
      obtain ⟨q2, h3, rfl⟩ := Option.map_eq_some_iff.1 h1
      have := (hp _ _ h3).1 _ _ h2
      rwa [show o + (j / 15 * 15 + j % 15) = o + j by omega] at this
    · obtain ⟨i, hi⟩ := List.getElem?_of_mem hq
      exact (hp i q hi).2
  · have : n = 0 := by omega
    subst this
    exact ⟨A, 0, cap, [], rfl, ⟨rfl, RdC.nil 15 W A, (fun q hq => nomatch hq)⟩, hc, hn⟩
set_option maxRecDepth 100000 in
theorem in_edits (hval : Value.okWide Tryz.prog W .any base 38 v) (h : Reads enc W 38 v d p) : ∃ (A : Option Addr) (n cap : Nat) (l : List Ed.Ex), v = .slice A n cap ∧ RdEs W A n l ∧ n ≤ cap ∧ n ≤ 9223372036854775807 := by
  obtain ⟨a0, len0, cap0, rfl⟩ := okWide_slice Tryz.underlying38 hval
  obtain ⟨fuel, hf⟩ := h
  exact one_edits (c := .slice a0 len0 cap0) hf
end
end Go.Proofs.YthfcjlndaajkfaaGreat
namespace Go.Proofs.YthfcjlndaajkfaaGreat
open Go.RowKit
set_option linter.unusedVariables false
set_option linter.unusedSimpArgs false
def Ed.cutE (x : Ed.Ex) : Ed.Ex := (⟨x.1.kd, x.1.id, x.1.nn, x.1.pid, x.1.pep, x.1.P, min x.1.pn 66, x.1.pc, (Ed.cutT (x.1.t, x.2.2)).1⟩, (x.2.1.take 66, x.2.2.take 66))
/-- What the statement's edits give: some of them, cut. -/
def GivesEs (w : World) (n : Nat) (E : List Ed.Ex) (e : Ending) (w' : World) : Prop :=
  ∃ (A' : Option Addr) (c' : Nat), e = .returned (.slice A' (min n 260) c') ∧ min n 260 ≤ c' ∧ RdEs w' A' (min n 260) ((E.take 260).map Ed.cutE) ∧ Below w.heap.size w w' ∧ OwnC 15 w' w.heap.size 37 A' (min n 260) c' (Ed.eflat ((E.take (min n 260)).map fun x => (Ed.cutE x).1))
theorem rd_er (w : World) (x : Ed.Er) (T : TypeId) : RdC 15 (w.alloc (.cells x.cells.toArray T)) (some ⟨w.heap.size, 0, none⟩) 1 x.cells := by
  have h := Holds.new w x.cells.toArray T
  refine ⟨rfl, fun _ => ⟨_, 0, rfl, by simp, fun j v hv => ?_⟩⟩
  rw [Nat.zero_add]
  exact h.at_ j (by simpa using hv)
theorem Ed.cutE_ok {w : World} {x : Ed.Ex} (h : Ed.ExOk w x) : Ed.ExOk w (Ed.cutE x) := by
  obtain ⟨p, q, f⟩ := h
  have hp := PairsOk.cut (q := min x.1.pn 66) p (Nat.min_le_left _ _)
  rw [take_min p.1.1] at hp
  have hq := PairsOk.cut (q := min x.1.t.pn 66) q (Nat.min_le_left _ _)
  rw [take_min q.1.1] at hq
  refine ⟨hp, hq, ?_, ?_, f.2.2⟩
  · have := f.1
    show (x.1.t.lo.extract 0 (min x.1.t.lo.size 70)).size ≤ _
    rw [ByteArray.size_extract]
    omega
  · have := f.2.1
    show (x.1.t.hi.extract 0 (min x.1.t.hi.size 70)).size ≤ _
    rw [ByteArray.size_extract]
    omega
theorem rdes_cut {w w' : World} {A A' : Option Addr} {n c' : Nat} {base : Nat} {E : List Ed.Ex} (h : RdEs w A n E) (hb : Below w.heap.size w w') (ho : OwnC 15 w' base 37 A' (min n 260) c' (Ed.eflat ((E.take (min n 260)).map fun x => (Ed.cutE x).1))) : RdEs w' A' (min n 260) ((E.take 260).map Ed.cutE) := by
  refine ⟨by rw [List.length_map, List.length_take, h.1]; omega, ?_, ?_⟩
  · have e := ho.rd
    rw [take_min h.1] at e
    rw [List.map_map]
    exact e
  · intro x hx
    obtain ⟨y, hy, rfl⟩ := List.mem_map.1 hx
    exact Ed.cutE_ok ((h.below hb).2.2 y (List.mem_of_mem_take hy))
set_option maxRecDepth 100000 in
set_option maxHeartbeats 16000000 in
theorem ledits_any (A : Option Addr) (n c : Nat) (E : List Ed.Ex) (w : World) (hE : RdEs w A n E) (hn : n ≤ 9223372036854775807) :
    Calls Tryz.prog 18 #[.slice A n c] w (GivesEs w n E) := by
  have HE0 := Lib.hid hE
  have HB := Lib.hid (Below.refl w.heap.size w)
  clear hE
  go_enter Tryz.func18, Tryz.ntmps18
  go_wp2_with fail
  go_loopw [3, 4] (fun s3 ii wr => ∃ (k : Nat) (R : Option Addr) (rc : Nat), k ≤ n ∧ k ≤ 260 ∧ s3 = .slice R k rc ∧ ii = .int .i64 (k : Int) ∧ Hid (OwnC 15 wr w.heap.size 37 R k rc (Ed.eflat ((E.take k).map fun x => (Ed.cutE x).1))) ∧ Hid (Below w.heap.size w wr)) (fun _ ii _ => n - (intOf ii).toNat)
  case atStart => exact ⟨0, none, 0, by omega, by omega, rfl, rfl, Lib.hid (OwnC.none_ _ _ _ _), HB⟩
  case round =>
    clear HB
    obtain ⟨k, R, rc, hk, hk26, rfl, rfl, HO, HB⟩ := hrel
    by_cases hlt : k < n ∧ k < 260
    · have hki : (k : Int) < (n : Int) := by omega
      have hk3 : (k : Int) < 260 := by omega
      have hk0 : (0 : Int) ≤ (k : Int) := by omega
      obtain ⟨y, hy⟩ : ∃ y, E[k]? = some y := ⟨_, List.getElem?_eq_getElem (by rw [HE0.out.1]; exact hlt.1)⟩
      obtain ⟨b, o, hAb, hxo, hc⟩ := HE0.out.at_ hy
      have HY := Lib.hid hy
      subst hAb
      have hcw := hc wr HB.out
      have HXo := Lib.hid (hxo.below HB.out)
      clear hc hy hxo
      obtain ⟨⟨kd, id, nn, pid, pep, P, pn, pc, ⟨tid, tep, Q, qn, qc, sz, lv, ct, lo, hi, tp⟩⟩, ps, qs⟩ := y
      have e0 : wr.cell? ⟨b, o + k * 15, none⟩ = some (.int .i64 kd) := hcw 0 _ rfl
      have e1 : wr.cell? ⟨b, o + k * 15 + 1, none⟩ = some (.int .i64 id) := hcw 1 _ rfl
      have e2 : wr.cell? ⟨b, o + k * 15 + 2, none⟩ = some (.int .i64 nn) := hcw 2 _ rfl
      have e3 : wr.cell? ⟨b, o + k * 15 + 3, none⟩ = some (.int .i64 pid) := hcw 3 _ rfl
      have e4 : wr.cell? ⟨b, o + k * 15 + 4, none⟩ = some (.int .i64 pep) := hcw 4 _ rfl
      have e5 : wr.cell? ⟨b, o + k * 15 + 5, none⟩ = some (.slice P pn pc) := hcw 5 _ rfl
      have e6 : wr.cell? ⟨b, o + k * 15 + 6, none⟩ = some (.int .i64 tid) := hcw 6 _ rfl
      have e7 : wr.cell? ⟨b, o + k * 15 + 7, none⟩ = some (.int .i64 tep) := hcw 7 _ rfl
      have e8 : wr.cell? ⟨b, o + k * 15 + 8, none⟩ = some (.slice Q qn qc) := hcw 8 _ rfl
      have e9 : wr.cell? ⟨b, o + k * 15 + 9, none⟩ = some (.int .i64 sz) := hcw 9 _ rfl
      have e10 : wr.cell? ⟨b, o + k * 15 + 10, none⟩ = some (.int .i64 lv) := hcw 10 _ rfl
      have e11 : wr.cell? ⟨b, o + k * 15 + 11, none⟩ = some (.int .i64 ct) := hcw 11 _ rfl
      have e12 : wr.cell? ⟨b, o + k * 15 + 12, none⟩ = some (.string lo) := hcw 12 _ rfl
      have e13 : wr.cell? ⟨b, o + k * 15 + 13, none⟩ = some (.string hi) := hcw 13 _ rfl
      have e14 : wr.cell? ⟨b, o + k * 15 + 14, none⟩ = some (.int .i64 tp) := hcw 14 _ rfl
      clear hcw
      have hal : Below wr.heap.size wr (wr.alloc (.cells #[.int .i64 kd, .int .i64 id, .int .i64 nn, .int .i64 pid, .int .i64 pep, .slice P pn pc, .int .i64 tid, .int .i64 tep, .slice Q qn qc, .int .i64 sz, .int .i64 lv, .int .i64 ct, .string lo, .string hi, .int .i64 tp] 37)) := (Below.refl _ _).alloc (Nat.le_refl _) _
      have HXe := Lib.hid (Holds.new wr #[.int .i64 kd, .int .i64 id, .int .i64 nn, .int .i64 pid, .int .i64 pep, .slice P pn pc, .int .i64 tid, .int .i64 tep, .slice Q qn qc, .int .i64 sz, .int .i64 lv, .int .i64 ct, .string lo, .string hi, .int .i64 tp] 37)
      have HXa := Lib.hid (HXo.out.below hal)
      have HBa := Lib.hid (below_next HB.out hal)
      have HOa := Lib.hid (HO.out.below hal)
      have HOl := Lib.hid (fun (g : Nat) (hg : (Value.slice R k rc).ownBlock = some g) => (HO.out.blk g hg).2)
      have hxb := Lib.hid (show w.heap.size ≤ wr.heap.size from HB.out.size)
      have hls : lo.size ≤ 9223372036854775807 := HXo.out.2.2.1
      have hhs : hi.size ≤ 9223372036854775807 := HXo.out.2.2.2.1
      have hax := hal.size
      clear hal
      go_upto_region 6 with fail
      clear e0 e1 e2 e3 e4 e5 e6 e7 e8 e9 e10 e11 e12 e13 e14 HO HXo HB
      generalize (wr.alloc (.cells #[.int .i64 kd, .int .i64 id, .int .i64 nn, .int .i64 pid, .int .i64 pep, .slice P pn pc, .int .i64 tid, .int .i64 tep, .slice Q qn qc, .int .i64 sz, .int .i64 lv, .int .i64 ct, .string lo, .string hi, .int .i64 tp] 37)) = wa at *
      generalize wr.heap.size = xb at *
      replace HXe : Hid (Holds wa xb [.int .i64 kd, .int .i64 id, .int .i64 nn, .int .i64 pid, .int .i64 pep, .slice P pn pc, .int .i64 tid, .int .i64 tep, .slice Q qn qc, .int .i64 sz, .int .i64 lv, .int .i64 ct, .string lo, .string hi, .int .i64 tp]) := HXe
      have hbd : Below wa.heap.size wa wa.drew := (Below.refl _ _).drew
      have HXd := Lib.hid (HXe.out.below hbd)
      have HBd := Lib.hid (below_next HBa.out hbd)
      have HOd := Lib.hid (HOa.out.below hbd)
      have HPd := Lib.hid (HXa.out.1.below hbd)
      have HQd := Lib.hid (HXa.out.2.1.below hbd)
      have hsd := hbd.size
      clear HXe HBa HOa HXa hbd
      refine wp_region_T (fun W => True) (fun W => W.cell? ⟨xb, 0, none⟩ = some (.int .i64 kd) ∧ W.cell? ⟨xb, 1, none⟩ = some (.int .i64 id) ∧ W.cell? ⟨xb, 2, none⟩ = some (.int .i64 nn) ∧ W.cell? ⟨xb, 3, none⟩ = some (.int .i64 pid) ∧ W.cell? ⟨xb, 4, none⟩ = some (.int .i64 pep) ∧ W.cell? ⟨xb, 5, none⟩ = some (.slice P pn pc) ∧ W.cell? ⟨xb, 6, none⟩ = some (.int .i64 tid) ∧ W.cell? ⟨xb, 7, none⟩ = some (.int .i64 tep) ∧ W.cell? ⟨xb, 8, none⟩ = some (.slice Q qn qc) ∧ W.cell? ⟨xb, 9, none⟩ = some (.int .i64 sz) ∧ W.cell? ⟨xb, 10, none⟩ = some (.int .i64 lv) ∧ W.cell? ⟨xb, 11, none⟩ = some (.int .i64 ct) ∧ W.cell? ⟨xb, 12, none⟩ = some (.string lo) ∧ W.cell? ⟨xb, 13, none⟩ = some (.string hi) ∧ W.cell? ⟨xb, 14, none⟩ = some (.int .i64 tp)) 7 (by kernel_rfl) ?_
      have hT0 := Lib.hid (show wa.drew.cell? ⟨xb, 0, none⟩ = some (.int .i64 kd) ∧ wa.drew.cell? ⟨xb, 1, none⟩ = some (.int .i64 id) ∧ wa.drew.cell? ⟨xb, 2, none⟩ = some (.int .i64 nn) ∧ wa.drew.cell? ⟨xb, 3, none⟩ = some (.int .i64 pid) ∧ wa.drew.cell? ⟨xb, 4, none⟩ = some (.int .i64 pep) ∧ wa.drew.cell? ⟨xb, 5, none⟩ = some (.slice P pn pc) ∧ wa.drew.cell? ⟨xb, 6, none⟩ = some (.int .i64 tid) ∧ wa.drew.cell? ⟨xb, 7, none⟩ = some (.int .i64 tep) ∧ wa.drew.cell? ⟨xb, 8, none⟩ = some (.slice Q qn qc) ∧ wa.drew.cell? ⟨xb, 9, none⟩ = some (.int .i64 sz) ∧ wa.drew.cell? ⟨xb, 10, none⟩ = some (.int .i64 lv) ∧ wa.drew.cell? ⟨xb, 11, none⟩ = some (.int .i64 ct) ∧ wa.drew.cell? ⟨xb, 12, none⟩ = some (.string lo) ∧ wa.drew.cell? ⟨xb, 13, none⟩ = some (.string hi) ∧ wa.drew.cell? ⟨xb, 14, none⟩ = some (.int .i64 tp) from ⟨HXd.out.at_ 0 rfl, HXd.out.at_ 1 rfl, HXd.out.at_ 2 rfl, HXd.out.at_ 3 rfl, HXd.out.at_ 4 rfl, HXd.out.at_ 5 rfl, HXd.out.at_ 6 rfl, HXd.out.at_ 7 rfl, HXd.out.at_ 8 rfl, HXd.out.at_ 9 rfl, HXd.out.at_ 10 rfl, HXd.out.at_ 11 rfl, HXd.out.at_ 12 rfl, HXd.out.at_ 13 rfl, HXd.out.at_ 14 rfl⟩)
      refine tkT (i := 0) trivial (fun _ => hT0.out) ?_; try walk_nrm
      refine tkW (i := 1) trivial hT0.out ?_; try walk_nrm
      refine tkT (i := 3) trivial (fun _ => hT0.out) ?_; try walk_nrm
      refine tkW (i := 4) trivial hT0.out ?_; try walk_nrm
      refine wpAnyT_one (i := 2) (by kernel_rfl) rfl (fun K hK => ?_)
      try walk_nrm
      rw [if_pos (by rfl)]
      go_simp
      refine (lplace_any pid pep P pn pc ps wa.drew HPd.out).mono ?_
      rintro e v6 ⟨rfl, hb6⟩
      have HX6 := Lib.hid (HXd.out.below hb6)
      have HB6 := Lib.hid (below_next HBd.out hb6)
      have HO6 := Lib.hid (HOd.out.below hb6)
      have hs6 := hb6.size
      have HQ6 := Lib.hid (HQd.out.below hb6)
      have hT6 := Lib.hid (show v6.cell? ⟨xb, 0, none⟩ = some (.int .i64 kd) ∧ v6.cell? ⟨xb, 1, none⟩ = some (.int .i64 id) ∧ v6.cell? ⟨xb, 2, none⟩ = some (.int .i64 nn) ∧ v6.cell? ⟨xb, 3, none⟩ = some (.int .i64 pid) ∧ v6.cell? ⟨xb, 4, none⟩ = some (.int .i64 pep) ∧ v6.cell? ⟨xb, 5, none⟩ = some (.slice P pn pc) ∧ v6.cell? ⟨xb, 6, none⟩ = some (.int .i64 tid) ∧ v6.cell? ⟨xb, 7, none⟩ = some (.int .i64 tep) ∧ v6.cell? ⟨xb, 8, none⟩ = some (.slice Q qn qc) ∧ v6.cell? ⟨xb, 9, none⟩ = some (.int .i64 sz) ∧ v6.cell? ⟨xb, 10, none⟩ = some (.int .i64 lv) ∧ v6.cell? ⟨xb, 11, none⟩ = some (.int .i64 ct) ∧ v6.cell? ⟨xb, 12, none⟩ = some (.string lo) ∧ v6.cell? ⟨xb, 13, none⟩ = some (.string hi) ∧ v6.cell? ⟨xb, 14, none⟩ = some (.int .i64 tp) from ⟨HX6.out.at_ 0 rfl, HX6.out.at_ 1 rfl, HX6.out.at_ 2 rfl, HX6.out.at_ 3 rfl, HX6.out.at_ 4 rfl, HX6.out.at_ 5 rfl, HX6.out.at_ 6 rfl, HX6.out.at_ 7 rfl, HX6.out.at_ 8 rfl, HX6.out.at_ 9 rfl, HX6.out.at_ 10 rfl, HX6.out.at_ 11 rfl, HX6.out.at_ 12 rfl, HX6.out.at_ 13 rfl, HX6.out.at_ 14 rfl⟩)
      clear hb6
      refine hK.out _ _ trivial (fun _ => hT6.out) ?_
      clear hK
      try walk_nrm
      refine tkT (i := 6) trivial (fun _ => hT6.out) ?_; try walk_nrm
      refine wpAnyT_one (i := 5) (by kernel_rfl) rfl (fun K hK => ?_)
      try walk_nrm
      rw [if_pos (by rfl)]
      go_simp
      refine (ltable_any tid tep Q qn qc sz lv ct lo hi tp qs v6 HQ6.out hls hhs).mono ?_
      rintro e v7 ⟨rfl, hb7⟩
      have HX7 := Lib.hid (HX6.out.below hb7)
      have HB7 := Lib.hid (below_next HB6.out hb7)
      have HO7 := Lib.hid (HO6.out.below hb7)
      have hs7 := hb7.size
      have hT7 := Lib.hid (show v7.cell? ⟨xb, 0, none⟩ = some (.int .i64 kd) ∧ v7.cell? ⟨xb, 1, none⟩ = some (.int .i64 id) ∧ v7.cell? ⟨xb, 2, none⟩ = some (.int .i64 nn) ∧ v7.cell? ⟨xb, 3, none⟩ = some (.int .i64 pid) ∧ v7.cell? ⟨xb, 4, none⟩ = some (.int .i64 pep) ∧ v7.cell? ⟨xb, 5, none⟩ = some (.slice P pn pc) ∧ v7.cell? ⟨xb, 6, none⟩ = some (.int .i64 tid) ∧ v7.cell? ⟨xb, 7, none⟩ = some (.int .i64 tep) ∧ v7.cell? ⟨xb, 8, none⟩ = some (.slice Q qn qc) ∧ v7.cell? ⟨xb, 9, none⟩ = some (.int .i64 sz) ∧ v7.cell? ⟨xb, 10, none⟩ = some (.int .i64 lv) ∧ v7.cell? ⟨xb, 11, none⟩ = some (.int .i64 ct) ∧ v7.cell? ⟨xb, 12, none⟩ = some (.string lo) ∧ v7.cell? ⟨xb, 13, none⟩ = some (.string hi) ∧ v7.cell? ⟨xb, 14, none⟩ = some (.int .i64 tp) from ⟨HX7.out.at_ 0 rfl, HX7.out.at_ 1 rfl, HX7.out.at_ 2 rfl, HX7.out.at_ 3 rfl, HX7.out.at_ 4 rfl, HX7.out.at_ 5 rfl, HX7.out.at_ 6 rfl, HX7.out.at_ 7 rfl, HX7.out.at_ 8 rfl, HX7.out.at_ 9 rfl, HX7.out.at_ 10 rfl, HX7.out.at_ 11 rfl, HX7.out.at_ 12 rfl, HX7.out.at_ 13 rfl, HX7.out.at_ 14 rfl⟩)
      clear hb7 HX6 HB6 HO6 hT0 hT6 HQ6
      refine hK.out _ _ trivial (fun _ => hT7.out) ?_
      clear hK
      try walk_nrm
      refine wpAnyT_one (i := 7) (by kernel_rfl) rfl (fun K hK => ?_)
      try walk_nrm
      rw [if_pos (by rfl)]
      obtain ⟨t0, t1, t2, t3, t4, t5, t6, t7, t8, t9, t10, t11, t12, t13, t14⟩ := hT7.out
      have f3 := HX7.out.2.2 3
      have f4 := HX7.out.2.2 4
      have f5 := HX7.out.2.2 5
      go_simp
      have HG8 := Lib.hid (((grown_cell v7 xb 3 (.int .i64 pid)).trans ((grown_cell _ xb 4 (.int .i64 pep)).trans (grown_cell _ xb 5 (.slice P (min pn 66) pc)))))
      have HX8 := Lib.hid (show Holds (((v7.setCell ⟨xb, 3, none⟩ (.int .i64 pid)).setCell ⟨xb, 4, none⟩ (.int .i64 pep)).setCell ⟨xb, 5, none⟩ (.slice P (min pn 66) pc)) xb [.int .i64 kd, .int .i64 id, .int .i64 nn, .int .i64 pid, .int .i64 pep, .slice P (min pn 66) pc, .int .i64 tid, .int .i64 tep, .slice Q qn qc, .int .i64 sz, .int .i64 lv, .int .i64 ct, .string lo, .string hi, .int .i64 tp] from (((HX7.out.set 3 (.int .i64 pid) (by simp)).set 4 (.int .i64 pep) (by simp)).set 5 (.slice P (min pn 66) pc) (by simp)))
      have HB8 := Lib.hid (HB7.out.grown HG8.out HB7.out.size (fun g e => by injection e with e; have := hxb.out; omega))
      have HO8 := Lib.hid (HO7.out.grown HG8.out (.inr fun g hg e => by injection hg with hg; have := HOl.out g e; have := hxb.out; omega))
      have hs8 := HG8.out.size
      clear HG8 HX7 HB7 HO7 hT7 f3 f4 f5 t0 t1 t2 t3 t4 t5 t6 t7 t8 t9 t10 t11 t12 t13 t14
      refine hK.out _ _ trivial (fun h => Bool.noConfusion (h : true = false)) ?_
      clear hK
      try walk_nrm
      generalize (((v7.setCell ⟨xb, 3, none⟩ (.int .i64 pid)).setCell ⟨xb, 4, none⟩ (.int .i64 pep)).setCell ⟨xb, 5, none⟩ (.slice P (min pn 66) pc)) = v8 at *
      refine wpAnyT_take (i := 8) (v := ?_) rfl (by kernel_rfl) (by kernel_rfl) (by kernel_rfl) rfl (fun _ _ _ h => h) (Or.inl ⟨by rfl, ?_⟩) trivial (fun h => Bool.noConfusion (h : true = false)) ?_
      rotate_left
      · intro W hSW; (try dsimp only at hSW); go_simp; (try with_reducible rfl)
      try walk_nrm
      refine wpAnyT_one (i := 9) (by kernel_rfl) rfl (fun K hK => ?_)
      try walk_nrm
      rw [if_pos (by rfl)]
      have t6 := HX8.out.at_ 6 rfl
      have t7 := HX8.out.at_ 7 rfl
      have t8 := HX8.out.at_ 8 rfl
      have t9 := HX8.out.at_ 9 rfl
      have t10 := HX8.out.at_ 10 rfl
      have t11 := HX8.out.at_ 11 rfl
      have t12 := HX8.out.at_ 12 rfl
      have t13 := HX8.out.at_ 13 rfl
      have t14 := HX8.out.at_ 14 rfl
      have f6 := HX8.out.2.2 6
      have f7 := HX8.out.2.2 7
      have f8 := HX8.out.2.2 8
      have f9 := HX8.out.2.2 9
      have f10 := HX8.out.2.2 10
      have f11 := HX8.out.2.2 11
      have f12 := HX8.out.2.2 12
      have f13 := HX8.out.2.2 13
      have f14 := HX8.out.2.2 14
      go_simp
      have HG9 := Lib.hid (((grown_cell v8 xb 6 (.int .i64 tid)).trans ((grown_cell _ xb 7 (.int .i64 tep)).trans ((grown_cell _ xb 8 (.slice Q (min qn 66) qc)).trans ((grown_cell _ xb 9 (.int .i64 sz)).trans ((grown_cell _ xb 10 (.int .i64 lv)).trans ((grown_cell _ xb 11 (.int .i64 ct)).trans ((grown_cell _ xb 12 (.string (lo.extract 0 (min lo.size 70)))).trans ((grown_cell _ xb 13 (.string (hi.extract 0 (min hi.size 70)))).trans (grown_cell _ xb 14 (.int .i64 tp)))))))))))
      have HX9 := Lib.hid (show Holds (((((((((v8.setCell ⟨xb, 6, none⟩ (.int .i64 tid)).setCell ⟨xb, 7, none⟩ (.int .i64 tep)).setCell ⟨xb, 8, none⟩ (.slice Q (min qn 66) qc)).setCell ⟨xb, 9, none⟩ (.int .i64 sz)).setCell ⟨xb, 10, none⟩ (.int .i64 lv)).setCell ⟨xb, 11, none⟩ (.int .i64 ct)).setCell ⟨xb, 12, none⟩ (.string (lo.extract 0 (min lo.size 70)))).setCell ⟨xb, 13, none⟩ (.string (hi.extract 0 (min hi.size 70)))).setCell ⟨xb, 14, none⟩ (.int .i64 tp)) xb [.int .i64 kd, .int .i64 id, .int .i64 nn, .int .i64 pid, .int .i64 pep, .slice P (min pn 66) pc, .int .i64 tid, .int .i64 tep, .slice Q (min qn 66) qc, .int .i64 sz, .int .i64 lv, .int .i64 ct, .string (lo.extract 0 (min lo.size 70)), .string (hi.extract 0 (min hi.size 70)), .int .i64 tp] from (((((((((HX8.out.set 6 (.int .i64 tid) (by simp)).set 7 (.int .i64 tep) (by simp)).set 8 (.slice Q (min qn 66) qc) (by simp)).set 9 (.int .i64 sz) (by simp)).set 10 (.int .i64 lv) (by simp)).set 11 (.int .i64 ct) (by simp)).set 12 (.string (lo.extract 0 (min lo.size 70))) (by simp)).set 13 (.string (hi.extract 0 (min hi.size 70))) (by simp)).set 14 (.int .i64 tp) (by simp)))
      have HB9 := Lib.hid (HB8.out.grown HG9.out HB8.out.size (fun g e => by injection e with e; have := hxb.out; omega))
      have HO9 := Lib.hid (HO8.out.grown HG9.out (.inr fun g hg e => by injection hg with hg; have := HOl.out g e; have := hxb.out; omega))
      have hs9 := HG9.out.size
      clear HG9 HX8 HB8 HO8 t6 f6 t7 f7 t8 f8 t9 f9 t10 f10 t11 f11 t12 f12 t13 f13 t14 f14
      refine hK.out _ _ trivial (fun h => Bool.noConfusion (h : true = false)) ?_
      clear hK
      generalize (((((((((v8.setCell ⟨xb, 6, none⟩ (.int .i64 tid)).setCell ⟨xb, 7, none⟩ (.int .i64 tep)).setCell ⟨xb, 8, none⟩ (.slice Q (min qn 66) qc)).setCell ⟨xb, 9, none⟩ (.int .i64 sz)).setCell ⟨xb, 10, none⟩ (.int .i64 lv)).setCell ⟨xb, 11, none⟩ (.int .i64 ct)).setCell ⟨xb, 12, none⟩ (.string (lo.extract 0 (min lo.size 70)))).setCell ⟨xb, 13, none⟩ (.string (hi.extract 0 (min hi.size 70)))).setCell ⟨xb, 14, none⟩ (.int .i64 tp)) = v9 at *
      refine wpAnyT_done (by kernel_rfl) ?_ _
      obtain ⟨x0, x1, x2, x3, x4, x5, x6, x7, x8, x9, x10, x11, x12, x13, x14⟩ := HX9.out.all15
      have ha2 : Below v9.heap.size v9 (v9.alloc (.cells #[.int .i64 kd, .int .i64 id, .int .i64 nn, .int .i64 pid, .int .i64 pep, .slice P (min pn 66) pc, .int .i64 tid, .int .i64 tep, .slice Q (min qn 66) qc, .int .i64 sz, .int .i64 lv, .int .i64 ct, .string (lo.extract 0 (min lo.size 70)), .string (hi.extract 0 (min hi.size 70)), .int .i64 tp] 37)) := (Below.refl _ _).alloc (Nat.le_refl _) _
      have hrd := rd_er v9 (⟨kd, id, nn, pid, pep, P, min pn 66, pc, ⟨tid, tep, Q, min qn 66, qc, sz, lv, ct, lo.extract 0 (min lo.size 70), hi.extract 0 (min hi.size 70), tp⟩⟩ : Ed.Er) 37
      have HOa := Lib.hid (HO9.out.below ha2)
      have hba2 : w.heap.size ≤ (v9.alloc (.cells #[.int .i64 kd, .int .i64 id, .int .i64 nn, .int .i64 pid, .int .i64 pep, .slice P (min pn 66) pc, .int .i64 tid, .int .i64 tep, .slice Q (min qn 66) qc, .int .i64 sz, .int .i64 lv, .int .i64 ct, .string (lo.extract 0 (min lo.size 70)), .string (hi.extract 0 (min hi.size 70)), .int .i64 tp] 37)).heap.size := Nat.le_trans HB9.out.size ha2.size
      have hsn : Ed.eflat ((E.take (k + 1)).map fun x => (Ed.cutE x).1) = Ed.eflat ((E.take k).map fun x => (Ed.cutE x).1) ++ [.int .i64 kd, .int .i64 id, .int .i64 nn, .int .i64 pid, .int .i64 pep, .slice P (min pn 66) pc, .int .i64 tid, .int .i64 tep, .slice Q (min qn 66) qc, .int .i64 sz, .int .i64 lv, .int .i64 ct, .string (lo.extract 0 (min lo.size 70)), .string (hi.extract 0 (min hi.size 70)), .int .i64 tp] := by rw [List.take_add_one, HY.out]; simp [Ed.eflat, Ed.cutE, Ed.cutT, Ed.Er.cells]
      have HSn := Lib.hid hsn
      clear hsn
      go_wp2_with (at_builtin; refine wpList_appN manyE rfl (.tmp 28) (.tmp 30) rfl rfl HOa.out (some ⟨v9.heap.size, 0, none⟩) 1 1 [.int .i64 kd, .int .i64 id, .int .i64 nn, .int .i64 pid, .int .i64 pep, .slice P (min pn 66) pc, .int .i64 tid, .int .i64 tep, .slice Q (min qn 66) qc, .int .i64 sz, .int .i64 lv, .int .i64 ct, .string (lo.extract 0 (min lo.size 70)), .string (hi.extract 0 (min hi.size 70)), .int .i64 tp] (Ed.er_one (⟨kd, id, nn, pid, pep, P, min pn 66, pc, ⟨tid, tep, Q, min qn 66, qc, sz, lv, ct, lo.extract 0 (min lo.size 70), hi.extract 0 (min hi.size 70), tp⟩⟩ : Ed.Er)) rfl hrd (by omega) hba2 ?_; intro R4 c4 v4 hg4)
      have HBn := Lib.hid (hg4.below (below_next HB9.out ha2) hba2 (fun g h => (HOa.out.blk g h).1))
      have HOn := Lib.hid hg4.own
      rw [← HSn.out] at HOn
      clear hg4 hrd HOa hba2 ha2 HSn x0 x1 x2 x3 x4 x5 x6 x7 x8 x9 x10 x11 x12 x13 x14
      go_wp2_with fail
      go_roundw
      case rel => exact ⟨k + 1, R4, c4, by omega, by omega, rfl, by go_num, HOn, HBn⟩
      case measure => simp [intOf]; omega
    · have hkm : k = min n 260 := by omega
      have hcase : (¬ (k : Int) < (n : Int)) ∨ ((k : Int) < (n : Int) ∧ ¬ (k : Int) < 260) := by omega
      have HFin := Lib.hid (show GivesEs w n E (.returned (.slice R k rc)) wr from ⟨R, rc, by rw [hkm], by rw [← hkm]; exact HO.out.fits, rdes_cut HE0.out HB.out (by have h := HO.out; rw [hkm] at h; exact h), HB.out, (by have h := HO.out; rw [hkm] at h; exact h)⟩)
      clear hlt hkm
      rcases hcase with h1 | ⟨h1, h2⟩
      all_goals
        go_wp2
        go_ret
        exact HFin.out
end Go.Proofs.YthfcjlndaajkfaaGreat
