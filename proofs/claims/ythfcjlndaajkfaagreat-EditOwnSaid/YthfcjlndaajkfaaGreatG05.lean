/- edit.sameTable. edit.ownPlace: a place in memory of its own. The cells of one log, of one table; which calls are entered. Rows of logs and of tables of the call's own, with their pairs. Pairs stay where a block of their own is written. edit.mayBe at a kind that is none. -/
import Derived.Test.YthfcjlndaajkfaaGreatG04
import Derived.Deep.CutBlock
import Derived.Deep.DeepCutAuto
namespace Go.Proofs.YthfcjlndaajkfaaGreat
open Go.RowKit
set_option linter.unusedVariables false
set_option linter.unusedSimpArgs false
set_option maxRecDepth 100000 in
set_option maxHeartbeats 8000000 in
theorem sametable_any (id ep : Int) (A : Option Addr) (n c : Nat) (sz lv ct : Int) (lo hi : ByteArray) (tp : Int) (ps : List (Int × Int)) (id2 ep2 : Int) (B : Option Addr) (m d : Nat) (sz2 lv2 ct2 : Int) (lo2 hi2 : ByteArray) (tp2 : Int) (qs : List (Int × Int)) (w : World) (h1 : RdPs w A n ps) (h2 : RdPs w B m qs) (hn : n ≤ 9223372036854775807) (hm : m ≤ 9223372036854775807) :
    Calls Tryz.prog 46 #[.agg #[.int .i64 id, .int .i64 ep, .slice A n c, .int .i64 sz, .int .i64 lv, .int .i64 ct, .string lo, .string hi, .int .i64 tp], .agg #[.int .i64 id2, .int .i64 ep2, .slice B m d, .int .i64 sz2, .int .i64 lv2, .int .i64 ct2, .string lo2, .string hi2, .int .i64 tp2]] w fun e w' => e = .returned (.bool ((⟨⟨id, ep, ps⟩, sz, lv, ct, lo, hi, tp⟩ : Ed.Ta).eq ⟨⟨id2, ep2, qs⟩, sz2, lv2, ct2, lo2, hi2, tp2⟩)) ∧ Below w.heap.size w w' := by
  have hb2 : Below w.heap.size w ((w.alloc (.cells #[.int .i64 id, .int .i64 ep, .slice A n c, .int .i64 sz, .int .i64 lv, .int .i64 ct, .string lo, .string hi, .int .i64 tp] 35)).alloc (.cells #[.int .i64 id2, .int .i64 ep2, .slice B m d, .int .i64 sz2, .int .i64 lv2, .int .i64 ct2, .string lo2, .string hi2, .int .i64 tp2] 35)) := ((Below.refl _ _).alloc (Nat.le_refl _) _).alloc (by simp) _
  have HP := hd_ (sameplace_any id ep A n c ps id2 ep2 B m d qs ((w.alloc (.cells #[.int .i64 id, .int .i64 ep, .slice A n c, .int .i64 sz, .int .i64 lv, .int .i64 ct, .string lo, .string hi, .int .i64 tp] 35)).alloc (.cells #[.int .i64 id2, .int .i64 ep2, .slice B m d, .int .i64 sz2, .int .i64 lv2, .int .i64 ct2, .string lo2, .string hi2, .int .i64 tp2] 35)) (h1.below hb2) (h2.below hb2) hn hm)
  have HX := hd_ ((Holds.new w #[.int .i64 id, .int .i64 ep, .slice A n c, .int .i64 sz, .int .i64 lv, .int .i64 ct, .string lo, .string hi, .int .i64 tp] 35).alloc (.cells #[.int .i64 id2, .int .i64 ep2, .slice B m d, .int .i64 sz2, .int .i64 lv2, .int .i64 ct2, .string lo2, .string hi2, .int .i64 tp2] 35))
  have HY := hd_ (Holds.new (w.alloc (.cells #[.int .i64 id, .int .i64 ep, .slice A n c, .int .i64 sz, .int .i64 lv, .int .i64 ct, .string lo, .string hi, .int .i64 tp] 35)) #[.int .i64 id2, .int .i64 ep2, .slice B m d, .int .i64 sz2, .int .i64 lv2, .int .i64 ct2, .string lo2, .string hi2, .int .i64 tp2] 35)
  have HB := hd_ hb2
  clear h1 h2 hb2 hn hm
  have HA := hd_ (show ((⟨id, ep, ps⟩ : Ed.Pl).eq ⟨id2, ep2, qs⟩ && decide (sz = sz2) && decide (lv = lv2) && decide (ct = ct2) && Ed.seq lo lo2 && Ed.seq hi hi2 && decide (tp = tp2)) = (⟨⟨id, ep, ps⟩, sz, lv, ct, lo, hi, tp⟩ : Ed.Ta).eq ⟨⟨id2, ep2, qs⟩, sz2, lv2, ct2, lo2, hi2, tp2⟩ from rfl)
  generalize (⟨⟨id, ep, ps⟩, sz, lv, ct, lo, hi, tp⟩ : Ed.Ta).eq ⟨⟨id2, ep2, qs⟩, sz2, lv2, ct2, lo2, hi2, tp2⟩ = ans at *
  generalize (⟨id, ep, ps⟩ : Ed.Pl).eq ⟨id2, ep2, qs⟩ = t at *
  go_enter Tryz.func46, Tryz.ntmps46
  go_upto_region 1 with fail
  generalize ((w.alloc (.cells #[.int .i64 id, .int .i64 ep, .slice A n c, .int .i64 sz, .int .i64 lv, .int .i64 ct, .string lo, .string hi, .int .i64 tp] 35)).alloc (.cells #[.int .i64 id2, .int .i64 ep2, .slice B m d, .int .i64 sz2, .int .i64 lv2, .int .i64 ct2, .string lo2, .string hi2, .int .i64 tp2] 35)) = u at *
  replace HX : Hid (Holds u w.heap.size [.int .i64 id, .int .i64 ep, .slice A n c, .int .i64 sz, .int .i64 lv, .int .i64 ct, .string lo, .string hi, .int .i64 tp]) := HX
  replace HY : Hid (Holds u (w.heap.size + 1) [.int .i64 id2, .int .i64 ep2, .slice B m d, .int .i64 sz2, .int .i64 lv2, .int .i64 ct2, .string lo2, .string hi2, .int .i64 tp2]) := hd_ (by have := HY.out; simpa using this)
  have x0 := HX.out.at_ 0 rfl
  have x1 := HX.out.at_ 1 rfl
  have x2 := HX.out.at_ 2 rfl
  have y0 := HY.out.at_ 0 rfl
  have y1 := HY.out.at_ 1 rfl
  have y2 := HY.out.at_ 2 rfl
  go_wp2_with fail
  refine HP.out.mono ?_
  rintro e v ⟨rfl, hbv⟩
  have HB1 := hd_ (below_next HB.out hbv)
  have HX1 := hd_ (HX.out.below hbv)
  have HY1 := hd_ (HY.out.below hbv)
  clear hbv x0 x1 x2 y0 y1 y2 HX HY HB HP
  have x3 := HX1.out.at_ 3 rfl
  have y3 := HY1.out.at_ 3 rfl
  have x4 := HX1.out.at_ 4 rfl
  have y4 := HY1.out.at_ 4 rfl
  have x5 := HX1.out.at_ 5 rfl
  have y5 := HY1.out.at_ 5 rfl
  have x6 := HX1.out.at_ 6 rfl
  have y6 := HY1.out.at_ 6 rfl
  have x7 := HX1.out.at_ 7 rfl
  have y7 := HY1.out.at_ 7 rfl
  have x8 := HX1.out.at_ 8 rfl
  have y8 := HY1.out.at_ 8 rfl
  cases t with
  | false =>
    have HF := hd_ (show false = ans by rw [← HA.out]; try simp)
    clear HA
    go_wp2
    go_ret
    exact ⟨by rw [← HF.out]; rfl, HB1.out⟩
  | true =>
  replace HA := hd_ (show (((((decide (sz = sz2) && decide (lv = lv2)) && decide (ct = ct2)) && Ed.seq lo lo2) && Ed.seq hi hi2) && decide (tp = tp2)) = ans by rw [← HA.out]; try simp)
  cases g0 : (sz == sz2) with
  | false =>
    have HF := hd_ (show false = ans by rw [← HA.out, decide_eq_false (beq_eq_false_iff_ne.1 g0)]; try simp)
    clear HA
    go_wp2
    go_ret
    exact ⟨by rw [← HF.out]; rfl, HB1.out⟩
  | true =>
  replace HA := hd_ (show ((((decide (lv = lv2) && decide (ct = ct2)) && Ed.seq lo lo2) && Ed.seq hi hi2) && decide (tp = tp2)) = ans by rw [← HA.out, decide_eq_true (beq_iff_eq.1 g0)]; try simp)
  cases g1 : (lv == lv2) with
  | false =>
    have HF := hd_ (show false = ans by rw [← HA.out, decide_eq_false (beq_eq_false_iff_ne.1 g1)]; try simp)
    clear HA
    go_wp2
    go_ret
    exact ⟨by rw [← HF.out]; rfl, HB1.out⟩
  | true =>
  replace HA := hd_ (show (((decide (ct = ct2) && Ed.seq lo lo2) && Ed.seq hi hi2) && decide (tp = tp2)) = ans by rw [← HA.out, decide_eq_true (beq_iff_eq.1 g1)]; try simp)
  cases g2 : (ct == ct2) with
  | false =>
    have HF := hd_ (show false = ans by rw [← HA.out, decide_eq_false (beq_eq_false_iff_ne.1 g2)]; try simp)
    clear HA
    go_wp2
    go_ret
    exact ⟨by rw [← HF.out]; rfl, HB1.out⟩
  | true =>
  replace HA := hd_ (show ((Ed.seq lo lo2 && Ed.seq hi hi2) && decide (tp = tp2)) = ans by rw [← HA.out, decide_eq_true (beq_iff_eq.1 g2)]; try simp)
  cases g3 : (lo.toList == lo2.toList) with
  | false =>
    have HF := hd_ (show false = ans by rw [← HA.out, show Ed.seq lo lo2 = false from g3]; try simp)
    clear HA
    go_wp2
    go_ret
    exact ⟨by rw [← HF.out]; rfl, HB1.out⟩
  | true =>
  replace HA := hd_ (show (Ed.seq hi hi2 && decide (tp = tp2)) = ans by rw [← HA.out, show Ed.seq lo lo2 = true from g3]; try simp)
  cases g4 : (hi.toList == hi2.toList) with
  | false =>
    have HF := hd_ (show false = ans by rw [← HA.out, show Ed.seq hi hi2 = false from g4]; try simp)
    clear HA
    go_wp2
    go_ret
    exact ⟨by rw [← HF.out]; rfl, HB1.out⟩
  | true =>
  replace HA := hd_ (show decide (tp = tp2) = ans by rw [← HA.out, show Ed.seq hi hi2 = true from g4]; try simp)
  cases g5 : (tp == tp2) with
  | false =>
    have HF := hd_ (show false = ans by rw [← HA.out, decide_eq_false (beq_eq_false_iff_ne.1 g5)]; try simp)
    clear HA
    go_wp2
    go_ret
    exact ⟨by rw [← HF.out]; rfl, HB1.out⟩
  | true =>
  replace HA := hd_ (show true = ans by rw [← HA.out, decide_eq_true (beq_iff_eq.1 g5)]; try simp)
  have HF := hd_ (show true = ans from HA.out)
  clear HA
  go_wp2
  go_ret
  exact ⟨by rw [← HF.out]; rfl, HB1.out⟩
end Go.Proofs.YthfcjlndaajkfaaGreat
namespace Go.Proofs.YthfcjlndaajkfaaGreat
open Go.RowKit
/-- A place whose pairs lie in memory of the call's own. -/
def GivesPl (w : World) (id ep : Int) (ps : List (Int × Int)) (n : Nat) (e : Ending) (w' : World) : Prop :=
  ∃ B d, e = .returned (.agg #[.int .i64 id, .int .i64 ep, .slice B n d]) ∧ OwnC 2 w' w.heap.size 64 B n d (Pk.iv (Ed.fl ps)) ∧ Below w.heap.size w w'
set_option maxRecDepth 100000 in
set_option maxHeartbeats 4000000 in
theorem ownplace_any (id ep : Int) (A : Option Addr) (n c : Nat) (ps : List (Int × Int)) (w : World) (hr : RdPs w A n ps) (hn : n ≤ 100000) :
    Calls Tryz.prog 28 #[.agg #[.int .i64 id, .int .i64 ep, .slice A n c]] w (GivesPl w id ep ps n) := by
  have hb2 : Below w.heap.size w ((w.alloc (.cells #[.int .i64 id, .int .i64 ep, .slice A n c] 32)).alloc (.cells #[.int .i64 0, .int .i64 0, .slice none 0 0] 32)) := ((Below.refl _ _).alloc (Nat.le_refl _) _).alloc (by simp) _
  have HR := hd_ (hr.below hb2)
  have HX := hd_ ((Holds.new w #[.int .i64 id, .int .i64 ep, .slice A n c] 32).alloc (.cells #[.int .i64 0, .int .i64 0, .slice none 0 0] 32))
  have HY := hd_ (Holds.new (w.alloc (.cells #[.int .i64 id, .int .i64 ep, .slice A n c] 32)) #[.int .i64 0, .int .i64 0, .slice none 0 0] 32)
  have HS := hd_ (show ((w.alloc (.cells #[.int .i64 id, .int .i64 ep, .slice A n c] 32)).alloc (.cells #[.int .i64 0, .int .i64 0, .slice none 0 0] 32)).heap.size = w.heap.size + 2 by simp)
  have HB := hd_ hb2
  clear hb2 hr
  go_enter Tryz.func28, Tryz.ntmps28
  go_upto_region 1 with fail
  generalize ((w.alloc (.cells #[.int .i64 id, .int .i64 ep, .slice A n c] 32)).alloc (.cells #[.int .i64 0, .int .i64 0, .slice none 0 0] 32)) = u at *
  replace HX : Hid (Holds u w.heap.size [.int .i64 id, .int .i64 ep, .slice A n c]) := HX
  replace HY : Hid (Holds u (w.heap.size + 1) [.int .i64 0, .int .i64 0, .slice none 0 0]) := hd_ (by have := HY.out; simpa using this)
  have x0 := HX.out.at_ 0 rfl
  have x1 := HX.out.at_ 1 rfl
  have x2 := HX.out.at_ 2 rfl
  go_upto_region 2 with (at_builtin; refine wpList_appN manyPr rfl (.const (.slice none 0 0)) (.tmp 4) rfl rfl (OwnC.none_ 2 u w.heap.size 64) A n c (Pk.iv (Ed.fl ps)) (Pk.iv_one _) rfl HR.out.2 (by omega) HB.out.size ?_; intro B d v hg; have HG := hd_ hg; clear hg; have f2 := (HX.out.below (show Below u.heap.size u v from (Below.refl _ _).grown HG.out.grew (Nat.le_refl _) (fun g hg => by cases hg))).2.2 2; have y2 := (HX.out.below (show Below u.heap.size u v from (Below.refl _ _).grown HG.out.grew (Nat.le_refl _) (fun g hg => by cases hg))).at_ 2 rfl)
  clear x0 x1 x2 f2 y2
  have hbu : Below u.heap.size u v := (Below.refl _ _).grown HG.out.grew (Nat.le_refl _) (fun g hg => by cases hg)
  have HV := hd_ (below_next HB.out hbu)
  have HO := hd_ (show OwnC 2 v w.heap.size 64 B n d (Pk.iv (Ed.fl ps)) by have h := HG.out.own; rwa [Nat.zero_add, List.nil_append] at h)
  have HBl := hd_ (show ∀ g, (Value.slice B n d).ownBlock = some g → w.heap.size + 2 ≤ g by
    intro g hg
    have h := HG.out.blk
    rw [Nat.zero_add] at h
    rcases h with h | h
    · rw [h] at hg; cases hg
    · rw [h] at hg; injection hg with hg; have := HS.out; omega)
  have HX2 := hd_ ((HX.out.below hbu).set 2 (.slice B n d) (by simp))
  have HY2 := hd_ ((HY.out.below hbu).other (b := w.heap.size) (i := 2) (v := .slice B n d) (by omega))
  clear hbu HX HY HR HB HS HG
  have x0 := HX2.out.at_ 0 rfl
  have x1 := HX2.out.at_ 1 rfl
  have x2 := HX2.out.at_ 2 rfl
  have y0 := HY2.out.at_ 0 rfl
  have y1 := HY2.out.at_ 1 rfl
  have y2 := HY2.out.at_ 2 rfl
  have yf0 := HY2.out.2.2 0
  have yf1 := HY2.out.2.2 1
  have yf2 := HY2.out.2.2 2
  have HZ := hd_ (HY2.out.set3 (.int .i64 id) (.int .i64 ep) (.slice B n d))
  have HF := hd_ (show OwnC 2 ((((v.setCell ⟨w.heap.size, 2, none⟩ (.slice B n d)).setCell ⟨w.heap.size + 1, 0, none⟩ (.int .i64 id)).setCell ⟨w.heap.size + 1, 1, none⟩ (.int .i64 ep)).setCell ⟨w.heap.size + 1, 2, none⟩ (.slice B n d)) w.heap.size 64 B n d (Pk.iv (Ed.fl ps)) from
    (((HO.out.far_ (fun g hg => by have := HBl.out g hg; omega)).far_ (fun g hg => by have := HBl.out g hg; omega)).far_ (fun g hg => by have := HBl.out g hg; omega)).far_ (fun g hg => by have := HBl.out g hg; omega))
  have HBf := hd_ (show Below w.heap.size w ((((v.setCell ⟨w.heap.size, 2, none⟩ (.slice B n d)).setCell ⟨w.heap.size + 1, 0, none⟩ (.int .i64 id)).setCell ⟨w.heap.size + 1, 1, none⟩ (.int .i64 ep)).setCell ⟨w.heap.size + 1, 2, none⟩ (.slice B n d)) from
    (((HV.out.setCell (Nat.le_refl _) _).setCell (Nat.le_succ _) _).setCell (Nat.le_succ _) _).setCell (Nat.le_succ _) _)
  go_wp2_with fail
  clear x0 x1 x2 y0 y1 y2 yf0 yf1 yf2 HX2 HY2 HO
  generalize ((((v.setCell ⟨w.heap.size, 2, none⟩ (.slice B n d)).setCell ⟨w.heap.size + 1, 0, none⟩ (.int .i64 id)).setCell ⟨w.heap.size + 1, 1, none⟩ (.int .i64 ep)).setCell ⟨w.heap.size + 1, 2, none⟩ (.slice B n d)) = q at *
  have y0 := HZ.out.at_ 0 rfl
  have y1 := HZ.out.at_ 1 rfl
  have y2 := HZ.out.at_ 2 rfl
  refine bodyPost_ret (v := .agg #[.int .i64 id, .int .i64 ep, .slice B n d]) ?_ rfl ⟨B, d, rfl, HF.out, HBf.out⟩
  simp [results, Tryz.results28, go_sem, y0, y1, y2]
end Go.Proofs.YthfcjlndaajkfaaGreat
namespace Go.Proofs.YthfcjlndaajkfaaGreat
open Go.RowKit
theorem run_enter {F : FuncId} {fn : Func} (hf : Tryz.prog.funcs[F]? = some fn) (hname : (fn.name == "runtime.NumGoroutine") = false) (hb : fn.body.isNone = false) (args : Array Value) (w : World) : (callFunc F args).run Tryz.prog w = .ok (.enter F args) w := by
  unfold callFunc
  rw [Sem.run_bind]
  show (Result.ok Tryz.prog w).andThen _ = _
  rw [Result.andThen_ok]
  simp only [hf, hname, hb, Bool.false_eq_true, if_false]
  rfl
theorem RdLs.len {w : World} {A : Option Addr} {n : Nat} {L : List (Ed.Lg × List (Int × Int))} (h : RdLs w A n L) : L.length = n := h.1
theorem RdTs.len {w : World} {A : Option Addr} {n : Nat} {L : List (Pk.Tb × List (Int × Int))} (h : RdTs w A n L) : L.length = n := by have := h.1.1; rwa [List.length_map] at this
/-- What is known of one log, or table: its pairs. -/
def PairsOk (w : World) (P : Option Addr) (pn pc : Nat) (ps : List (Int × Int)) : Prop := RdPs w P pn ps ∧ pn ≤ pc ∧ pn ≤ 9223372036854775807
theorem RdLs.four {w : World} {A : Option Addr} {n k : Nat} {L : List (Ed.Lg × List (Int × Int))} {x : Ed.Lg × List (Int × Int)} (h : RdLs w A n L) (hx : L[k]? = some x) : ∃ b o, A = some ⟨b, o, none⟩ ∧ b < w.heap.size ∧ PairsOk w x.1.P x.1.pn x.1.pc x.2 ∧ ∀ w', Below w.heap.size w w' →
    w'.cell? ⟨b, o + k * 4, none⟩ = some (.int .i64 x.1.id) ∧ w'.cell? ⟨b, o + k * 4 + 1, none⟩ = some (.int .i64 x.1.ep) ∧ w'.cell? ⟨b, o + k * 4 + 2, none⟩ = some (.slice x.1.P x.1.pn x.1.pc) ∧ w'.cell? ⟨b, o + k * 4 + 3, none⟩ = some (.int .i64 x.1.se) := by
  have hk : k < n := by rw [← h.1]; exact (List.getElem?_eq_some_iff.1 hx).1
  obtain ⟨b, o, rfl, hb, hc⟩ := h.2.1.2 (by omega)
  have hm : (L.map (·.1))[k]? = some x.1 := by rw [List.getElem?_map, hx]; rfl
  have hz : ∀ j u, x.1.cells[j]? = some u → w.cell? ⟨b, o + (k * 4 + j), none⟩ = some u := fun j u hu => hc _ u (Pk.flatMap_at (f := Ed.Lg.cells) (s := 4) (fun _ => rfl) hm hu)
  refine ⟨b, o, rfl, hb, (h.2.2 x (List.mem_of_getElem? hx)).2, fun w' hw => ⟨(hw.cell hb).trans (hz 0 _ rfl), (hw.cell hb).trans (hz 1 _ rfl), (hw.cell hb).trans (hz 2 _ rfl), (hw.cell hb).trans (hz 3 _ rfl)⟩⟩
theorem RdTs.nine {w : World} {A : Option Addr} {n k : Nat} {L : List (Pk.Tb × List (Int × Int))} {x : Pk.Tb × List (Int × Int)} (h : RdTs w A n L) (hx : L[k]? = some x) : ∃ b o, A = some ⟨b, o, none⟩ ∧ b < w.heap.size ∧ PairsOk w x.1.P x.1.pn x.1.pc x.2 ∧ ∀ w', Below w.heap.size w w' →
    w'.cell? ⟨b, o + k * 9, none⟩ = some (.int .i64 x.1.id) ∧ w'.cell? ⟨b, o + k * 9 + 1, none⟩ = some (.int .i64 x.1.ep) ∧ w'.cell? ⟨b, o + k * 9 + 2, none⟩ = some (.slice x.1.P x.1.pn x.1.pc) ∧ w'.cell? ⟨b, o + k * 9 + 3, none⟩ = some (.int .i64 x.1.sz) ∧ w'.cell? ⟨b, o + k * 9 + 4, none⟩ = some (.int .i64 x.1.lv) ∧ w'.cell? ⟨b, o + k * 9 + 5, none⟩ = some (.int .i64 x.1.ct) ∧ w'.cell? ⟨b, o + k * 9 + 6, none⟩ = some (.string x.1.lo) ∧ w'.cell? ⟨b, o + k * 9 + 7, none⟩ = some (.string x.1.hi) ∧ w'.cell? ⟨b, o + k * 9 + 8, none⟩ = some (.int .i64 x.1.tp) := by
  have hm : (L.map (·.1))[k]? = some x.1 := by rw [List.getElem?_map, hx]; rfl
  obtain ⟨b, o, rfl, hb, hc⟩ := h.1.nine hm
  exact ⟨b, o, rfl, hb, h.2 x (List.mem_of_getElem? hx), hc⟩
theorem PairsOk.below {w w' : World} {P : Option Addr} {pn pc : Nat} {ps : List (Int × Int)} (h : PairsOk w P pn pc ps) (hb : Below w.heap.size w w') : PairsOk w' P pn pc ps := ⟨h.1.below hb, h.2⟩
/-- A call of a Go function of one argument, at a step of a drawn region. -/
theorem step_call1 {w : World} {ops : Array Oper} {o : Oper} {a : Act} {K : Act → World → Prop} {Q : Exit → Act → World → Prop} {E : Prop} {F : FuncId} {vx : Value} {T : TypeId} (hw : Region.wanted o (yielded ops a.tmps) = true) (d : Nat) (hd : o.dst = some d) (x : Operand)
    (ho : o.op = .call { callee := .value (.func F), args := #[x], argTypes := #[T] }) (hx : a.eval x = vx) (hcF : ∀ (args : Array Value) (wx : World), (callFunc F args).run Tryz.prog wx = .ok (.enter F args) wx)
    (h : Calls Tryz.prog F #[vx] w fun e w' => ∃ v, e = .returned v ∧ K (a.put (some d) v) w') :
    if Region.wanted o (yielded ops a.tmps) = true then Oper.wp Tryz.prog o a w K Q else E := by
  rw [if_pos hw]
  unfold Oper.wp execOp
  have e1 : a.eval (.func F) = .func (.func F) #[] #[] := rfl
  simp only [ho, resolve, invoke, Deferred.ofValue, e1, Sem.run_bind, Sem.run_pure, Result.andThen_ok, List.map_toArray, List.map_cons, List.map_nil, hx]
  simp only [Array.empty_append, Array.append_empty, hcF]
  refine h.mono ?_
  rintro e w' ⟨v, rfl, hk⟩
  rw [← hd] at hk
  exact hk
namespace Ed
theorem eqAll_no {α : Type} {eq : α → α → Bool} {a b : List α} {i : Nat} {x y : α} (h1 : a[i]? = some x) (h2 : b[i]? = some y) (h : eq x y = false) : eqAll eq a b = false := by
  rw [Bool.eq_false_iff]
  intro hh
  unfold eqAll at hh
  rw [Bool.and_eq_true, List.all_eq_true] at hh
  have := hh.2 i (List.mem_range.2 (List.getElem?_eq_some_iff.1 h1).1)
  rw [h1, h2] at this
  have this : eq x y = true := this
  rw [this] at h
  cases h
theorem eqAll_len {α : Type} {eq : α → α → Bool} {a b : List α} (h : a.length ≠ b.length) : eqAll eq a b = false := by
  unfold eqAll
  rw [decide_eq_false h, Bool.false_and]
theorem eqAll_yes {α : Type} {eq : α → α → Bool} {a b : List α} (hl : a.length = b.length) (h : ∀ i, i < a.length → ∀ x y, a[i]? = some x → b[i]? = some y → eq x y = true) : eqAll eq a b = true := by
  unfold eqAll
  rw [decide_eq_true hl, Bool.true_and, List.all_eq_true]
  intro i hi
  rw [List.mem_range] at hi
  rw [List.getElem?_eq_getElem hi, List.getElem?_eq_getElem (by omega)]
  exact h i hi _ _ (List.getElem?_eq_getElem hi) (List.getElem?_eq_getElem (by omega))
theorem map_at {α β : Type} {f : α → β} {l : List α} {i : Nat} {x : α} (h : l[i]? = some x) : (l.map f)[i]? = some (f x) := by rw [List.getElem?_map, h]; rfl
end Ed
end Go.Proofs.YthfcjlndaajkfaaGreat
namespace Go.Proofs.YthfcjlndaajkfaaGreat
open Go.RowKit
def blkOf (A : Option Addr) : Option Nat := A.map (·.block)
theorem ownBlock_eq (A : Option Addr) (n c : Nat) : (Value.slice A n c).ownBlock = blkOf A := by cases A <;> rfl
/-- Two addresses lead to two blocks, or one to none. -/
def Off (P A : Option Addr) : Prop := ∀ g, blkOf P = some g → blkOf A ≠ some g
theorem Off.symm {P A : Option Addr} (h : Off P A) : Off A P := fun g h1 h2 => h g h2 h1
/-- Pairs in memory of the call's own. -/
def OwP (w : World) (base : Nat) (P : Option Addr) (pn pc : Nat) (ps : List (Int × Int)) : Prop := ps.length = pn ∧ OwnC 2 w base 64 P pn pc (Pk.iv (Ed.fl ps))
theorem OwnC.capLe {s : Nat} {w : World} {base n cap : Nat} {E : TypeId} {A : Option Addr} {vs : List Value} (h : OwnC s w base E A n cap vs) : cap ≤ 9223372036854775807 := by
  rcases h.2 with ⟨hv, h0⟩ | ⟨g, c, cur, hv, hb, hg, hnc, hc, hs, ht⟩
  · injection hv with _ _ h3; omega
  · injection hv with _ _ h3
    simp only [maxLen] at hc
    omega
section
variable {w w' : World} {base pn pc : Nat} {P : Option Addr} {ps : List (Int × Int)}
theorem OwP.rd (h : OwP w base P pn pc ps) : RdPs w P pn ps := ⟨h.1, h.2.rd⟩
theorem OwP.ok (h : OwP w base P pn pc ps) : PairsOk w P pn pc ps := ⟨h.rd, h.2.fits, by have := h.2.fits; have := h.2.capLe; omega⟩
theorem OwP.grown {row : Option Nat} (h : OwP w base P pn pc ps) (hg : w.grownBy w' row) (hne : ∀ g, row = some g → blkOf P ≠ some g) : OwP w' base P pn pc ps := by
  refine ⟨h.1, h.2.grown hg (.inr fun g hr => ?_)⟩
  rw [ownBlock_eq]
  exact hne g hr
theorem OwP.below (h : OwP w base P pn pc ps) (hb : Below w.heap.size w w') : OwP w' base P pn pc ps := ⟨h.1, h.2.below hb⟩
theorem OwP.base_ {base' : Nat} (h : OwP w base P pn pc ps) (hb : base' ≤ base) : OwP w base' P pn pc ps := ⟨h.1, h.2.base_ hb⟩
theorem OwP.lt (h : OwP w base P pn pc ps) : ∀ g, blkOf P = some g → base ≤ g ∧ g < w.heap.size := fun g hg => h.2.blk g (by rw [ownBlock_eq]; exact hg)
end
theorem OwnC.lt {s : Nat} {w : World} {base n cap : Nat} {E : TypeId} {A : Option Addr} {vs : List Value} (h : OwnC s w base E A n cap vs) : ∀ g, blkOf A = some g → base ≤ g ∧ g < w.heap.size := fun g hg => h.blk g (by rw [ownBlock_eq]; exact hg)
/-- Logs in memory of the call's own. -/
structure OwLs (w : World) (base : Nat) (A : Option Addr) (n c : Nat) (L : List (Ed.Lg × List (Int × Int))) : Prop where
  len : L.length = n
  row : OwnC 4 w base 62 A n c (Ed.lflat (L.map (·.1)))
  fit : ∀ x ∈ L, x.1.fits
  prs : ∀ x ∈ L, OwP w base x.1.P x.1.pn x.1.pc x.2
  off : ∀ x ∈ L, Off x.1.P A
/-- Tables in memory of the call's own. -/
structure OwTs (w : World) (base : Nat) (A : Option Addr) (n c : Nat) (L : List (Pk.Tb × List (Int × Int))) : Prop where
  len : L.length = n
  row : OwnC 9 w base 35 A n c (Pk.flat (L.map (·.1)))
  fit : ∀ x ∈ L, x.1.fits
  prs : ∀ x ∈ L, OwP w base x.1.P x.1.pn x.1.pc x.2
  off : ∀ x ∈ L, Off x.1.P A
section
variable {w w' : World} {base n c : Nat} {A : Option Addr}
theorem OwLs.rd {L : List (Ed.Lg × List (Int × Int))} (h : OwLs w base A n c L) : RdLs w A n L := ⟨h.len, h.row.rd, fun x hx => ⟨h.fit x hx, (h.prs x hx).ok⟩⟩
theorem OwTs.rd {L : List (Pk.Tb × List (Int × Int))} (h : OwTs w base A n c L) : RdTs w A n L := ⟨⟨by rw [List.length_map]; exact h.len, h.row.rd, fun x hx => by
  obtain ⟨y, hy, rfl⟩ := List.mem_map.1 hx
  exact h.fit y hy⟩, fun x hx => (h.prs x hx).ok⟩
theorem OwLs.grown {row : Option Nat} {L : List (Ed.Lg × List (Int × Int))} (h : OwLs w base A n c L) (hg : w.grownBy w' row) (hA : ∀ g, row = some g → blkOf A ≠ some g) (hP : ∀ x ∈ L, ∀ g, row = some g → blkOf x.1.P ≠ some g) : OwLs w' base A n c L :=
  ⟨h.len, h.row.grown hg (.inr fun g hr => by rw [ownBlock_eq]; exact hA g hr), h.fit, fun x hx => (h.prs x hx).grown hg (hP x hx), h.off⟩
theorem OwTs.grown {row : Option Nat} {L : List (Pk.Tb × List (Int × Int))} (h : OwTs w base A n c L) (hg : w.grownBy w' row) (hA : ∀ g, row = some g → blkOf A ≠ some g) (hP : ∀ x ∈ L, ∀ g, row = some g → blkOf x.1.P ≠ some g) : OwTs w' base A n c L :=
  ⟨h.len, h.row.grown hg (.inr fun g hr => by rw [ownBlock_eq]; exact hA g hr), h.fit, fun x hx => (h.prs x hx).grown hg (hP x hx), h.off⟩
theorem OwLs.below {L : List (Ed.Lg × List (Int × Int))} (h : OwLs w base A n c L) (hb : Below w.heap.size w w') : OwLs w' base A n c L := h.grown (grown_of_below hb) (fun g hg => by cases hg) (fun x hx g hg => by cases hg)
theorem OwTs.below {L : List (Pk.Tb × List (Int × Int))} (h : OwTs w base A n c L) (hb : Below w.heap.size w w') : OwTs w' base A n c L := h.grown (grown_of_below hb) (fun g hg => by cases hg) (fun x hx g hg => by cases hg)
theorem OwLs.base_ {base' : Nat} {L : List (Ed.Lg × List (Int × Int))} (h : OwLs w base A n c L) (hb : base' ≤ base) : OwLs w base' A n c L := ⟨h.len, h.row.base_ hb, h.fit, fun x hx => (h.prs x hx).base_ hb, h.off⟩
theorem OwTs.base_ {base' : Nat} {L : List (Pk.Tb × List (Int × Int))} (h : OwTs w base A n c L) (hb : base' ≤ base) : OwTs w base' A n c L := ⟨h.len, h.row.base_ hb, h.fit, fun x hx => (h.prs x hx).base_ hb, h.off⟩
end
/-- A version in memory of the call's own: no block of its logs is one of its tables'. -/
structure OwV (w : World) (base : Nat) (A : Option Addr) (n c : Nat) (L : List (Ed.Lg × List (Int × Int))) (B : Option Addr) (m d : Nat) (M : List (Pk.Tb × List (Int × Int))) : Prop where
  ls : OwLs w base A n c L
  ts : OwTs w base B m d M
  ab : Off A B
  lb : ∀ x ∈ L, Off x.1.P B
  ta : ∀ x ∈ M, Off x.1.P A
section
variable {w w' : World} {base n c m d : Nat} {A B : Option Addr} {L : List (Ed.Lg × List (Int × Int))} {M : List (Pk.Tb × List (Int × Int))}
theorem OwV.grown {row : Option Nat} (h : OwV w base A n c L B m d M) (hg : w.grownBy w' row) (hr : ∀ g, row = some g → g < base) : OwV w' base A n c L B m d M :=
  ⟨h.ls.grown hg (fun g hrg e => by have := hr g hrg; have := (h.ls.row.lt g e).1; omega) (fun x hx g hrg e => by have := hr g hrg; have := ((h.ls.prs x hx).lt g e).1; omega),
   h.ts.grown hg (fun g hrg e => by have := hr g hrg; have := (h.ts.row.lt g e).1; omega) (fun x hx g hrg e => by have := hr g hrg; have := ((h.ts.prs x hx).lt g e).1; omega), h.ab, h.lb, h.ta⟩
theorem OwV.below (h : OwV w base A n c L B m d M) (hb : Below w.heap.size w w') : OwV w' base A n c L B m d M := ⟨h.ls.below hb, h.ts.below hb, h.ab, h.lb, h.ta⟩
theorem OwV.base_ {base' : Nat} (h : OwV w base A n c L B m d M) (hb : base' ≤ base) : OwV w base' A n c L B m d M := ⟨h.ls.base_ hb, h.ts.base_ hb, h.ab, h.lb, h.ta⟩
end
theorem grown_cell (w : World) (b i : Nat) (u : Value) : w.grownBy (w.setCell ⟨b, i, none⟩ u) (some b) := ⟨rfl, rfl, rfl, by simp [World.setCell], fun k _ hk2 => Below.heap_setCell _ _ _ _ (fun e => hk2 (by rw [e]))⟩
/-- One cell of one struct of a row is written. -/
theorem Ed.flat_set {α : Type} {f : α → List Value} {s : Nat} (hs : ∀ x, (f x).length = s) {j : Nat} {v : Value} (hj : j < s) : ∀ {l : List α} {k : Nat} {x x' : α}, l[k]? = some x → f x' = (f x).set j v → (l.flatMap f).set (k * s + j) v = (l.set k x').flatMap f
  | [], k, x, x', h, _ => by cases h
  | y :: ys, 0, x, x', h, he => by
    have h : y = x := by simpa using h
    subst h
    rw [Nat.zero_mul, Nat.zero_add, List.flatMap_cons, List.set_cons_zero, List.flatMap_cons, List.set_append_left _ _ (by rw [hs]; exact hj), he]
  | y :: ys, k + 1, x, x', h, he => by
    rw [List.flatMap_cons, List.set_cons_succ, List.flatMap_cons, List.set_append_right _ _ (by rw [hs, Nat.succ_mul]; omega), hs, show (k + 1) * s + j - s = k * s + j by rw [Nat.succ_mul]; omega, Ed.flat_set hs hj (by simpa using h) he]
theorem set_same {vs : List Value} {i : Nat} {v : Value} (h : vs[i]? = some v) : vs.set i v = vs := by
  obtain ⟨hi, hg⟩ := List.getElem?_eq_some_iff.1 h
  rw [← hg, List.set_getElem_self]
/-- A row in memory of the call's own. -/
def GivesC (s : Nat) (E : TypeId) (w : World) (n : Nat) (vs : List Value) (e : Ending) (w' : World) : Prop :=
  ∃ B d, e = .returned (.slice B n d) ∧ OwnC s w' w.heap.size E B n d vs ∧ Below w.heap.size w w'
theorem Ed.lflat_one (l : List Ed.Lg) : ∀ u ∈ Ed.lflat l, u.oneCell' = true := by
  intro u hu
  obtain ⟨x, _, hx⟩ := List.mem_flatMap.1 hu
  simp only [Ed.Lg.cells, List.mem_cons, List.not_mem_nil, or_false] at hx
  rcases hx with rfl | rfl | rfl | rfl <;> rfl
theorem Pk.flat_one (l : List Pk.Tb) : ∀ u ∈ Pk.flat l, u.oneCell' = true := by
  intro u hu
  obtain ⟨x, _, hx⟩ := List.mem_flatMap.1 hu
  exact Pk.cells_one x u hx
end Go.Proofs.YthfcjlndaajkfaaGreat
namespace Go.Proofs.YthfcjlndaajkfaaGreat
open Go.RowKit
theorem PairsOk.blk {w : World} {P : Option Addr} {pn pc : Nat} {ps : List (Int × Int)} (h : PairsOk w P pn pc ps) {g o : Nat} (e : P = some ⟨g, o, none⟩) (h0 : 0 < pn) : g < w.heap.size := by
  obtain ⟨b, o2, e2, hb, _⟩ := h.1.2.2 h0
  rw [e] at e2
  injection e2 with e2
  injection e2 with e2 _
  omega
theorem pairs_grown {w w' : World} {P : Option Addr} {pn pc b : Nat} {ps : List (Int × Int)} (h : PairsOk w P pn pc ps) (hne : ∀ g o, P = some ⟨g, o, none⟩ → 0 < pn → g ≠ b) (hg : w.grownBy w' (some b)) : PairsOk w' P pn pc ps :=
  ⟨⟨h.1.1, h.1.2.grown hg (fun h0 g o e e2 => by injection e2 with e2; exact hne g o e h0 e2.symm)⟩, h.2⟩
end Go.Proofs.YthfcjlndaajkfaaGreat
namespace Go.Proofs.YthfcjlndaajkfaaGreat
open Go.RowKit
set_option linter.unusedVariables false
set_option maxRecDepth 100000 in
set_option maxHeartbeats 16000000 in
theorem may0_any (kd : Int) (hk : kd ≠ 1 ∧ kd ≠ 2 ∧ kd ≠ 3 ∧ kd ≠ 4 ∧ kd ≠ 5 ∧ kd ≠ 6 ∧ kd ≠ 7) (id nn pid pep : Int) (P : Option Addr) (pn pc : Nat) (ps : List (Int × Int)) (tid tep : Int) (Q : Option Addr) (qn qc : Nat) (sz lv ct : Int) (lo hi : ByteArray) (tp : Int) (qs : List (Int × Int)) (w : World) (hP : PairsOk w P pn pc ps) (hQ : PairsOk w Q qn qc qs) (hls : lo.size ≤ 9223372036854775807 ∧ hi.size ≤ 9223372036854775807) (hfit : (⟨tid, tep, Q, qn, qc, sz, lv, ct, lo, hi, tp⟩ : Pk.Tb).fits) :
    Calls Tryz.prog 47 #[.agg #[.int .i64 kd, .int .i64 id, .int .i64 nn, .int .i64 pid, .int .i64 pep, .slice P pn pc, .int .i64 tid, .int .i64 tep, .slice Q qn qc, .int .i64 sz, .int .i64 lv, .int .i64 ct, .string lo, .string hi, .int .i64 tp]] w fun e w' => e = .returned (.bool (⟨kd, id, nn, ⟨pid, pep, ps⟩, ⟨⟨tid, tep, qs⟩, sz, lv, ct, lo, hi, tp⟩⟩ : Ed.Et).ok) ∧ Below w.heap.size w w' := by
  have hal : Below w.heap.size w (w.alloc (.cells #[.int .i64 kd, .int .i64 id, .int .i64 nn, .int .i64 pid, .int .i64 pep, .slice P pn pc, .int .i64 tid, .int .i64 tep, .slice Q qn qc, .int .i64 sz, .int .i64 lv, .int .i64 ct, .string lo, .string hi, .int .i64 tp] 37)) := (Below.refl _ _).alloc (Nat.le_refl _) _
  have HX := hd_ (Holds.new w #[.int .i64 kd, .int .i64 id, .int .i64 nn, .int .i64 pid, .int .i64 pep, .slice P pn pc, .int .i64 tid, .int .i64 tep, .slice Q qn qc, .int .i64 sz, .int .i64 lv, .int .i64 ct, .string lo, .string hi, .int .i64 tp] 37)
  have HB := hd_ hal
  have HP := hd_ (hP.below hal)
  have HQ := hd_ (hQ.below hal)
  have HFit := hd_ (And.intro hls hfit)
  have HUs := hd_ (show (w.alloc (.cells #[.int .i64 kd, .int .i64 id, .int .i64 nn, .int .i64 pid, .int .i64 pep, .slice P pn pc, .int .i64 tid, .int .i64 tep, .slice Q qn qc, .int .i64 sz, .int .i64 lv, .int .i64 ct, .string lo, .string hi, .int .i64 tp] 37)).heap.size = w.heap.size + 1 by simp)
  clear hal hP hQ hls hfit
  have HA := hd_ (show false = (⟨kd, id, nn, ⟨pid, pep, ps⟩, ⟨⟨tid, tep, qs⟩, sz, lv, ct, lo, hi, tp⟩⟩ : Ed.Et).ok from by obtain ⟨h1, h2, h3, h4, h5, h6, h7⟩ := hk; unfold Ed.Et.ok; dsimp only; rw [if_neg h1, if_neg h2, if_neg h3, if_neg h4, if_neg h5, if_neg h6, if_neg h7])
  generalize (⟨kd, id, nn, ⟨pid, pep, ps⟩, ⟨⟨tid, tep, qs⟩, sz, lv, ct, lo, hi, tp⟩⟩ : Ed.Et).ok = ans at *
  go_enter Tryz.func47, Tryz.ntmps47
  go_upto_region 1 with fail
  generalize (w.alloc (.cells #[.int .i64 kd, .int .i64 id, .int .i64 nn, .int .i64 pid, .int .i64 pep, .slice P pn pc, .int .i64 tid, .int .i64 tep, .slice Q qn qc, .int .i64 sz, .int .i64 lv, .int .i64 ct, .string lo, .string hi, .int .i64 tp] 37)) = u at *
  replace HX : Hid (Holds u w.heap.size [.int .i64 kd, .int .i64 id, .int .i64 nn, .int .i64 pid, .int .i64 pep, .slice P pn pc, .int .i64 tid, .int .i64 tep, .slice Q qn qc, .int .i64 sz, .int .i64 lv, .int .i64 ct, .string lo, .string hi, .int .i64 tp]) := HX
  go_cut [3, 4] from 3 to 5 (fun s3 s4 wx => s3 = .bool true ∧ s4 = .pointer (some ⟨w.heap.size + 1, 0, none⟩) ∧ Hid (Holds wx w.heap.size [.int .i64 kd, .int .i64 id, .int .i64 nn, .int .i64 pid, .int .i64 pep, .slice P pn pc, .int .i64 tid, .int .i64 tep, .slice Q qn qc, .int .i64 sz, .int .i64 lv, .int .i64 ct, .string lo, .string hi, .int .i64 tp] ∧ Holds wx (w.heap.size + 1) [.int .i64 kd, .int .i64 id, .int .i64 nn, .int .i64 pid, .int .i64 pep, .slice P pn pc, .int .i64 tid, .int .i64 tep, .slice Q qn qc, .int .i64 sz, .int .i64 lv, .int .i64 ct, .string lo, .string hi, .int .i64 tp] ∧ Below u.heap.size u wx))
  case first =>
    have Hsh := hd_ (HX.out.below (show Below u.heap.size u u.drew from (Below.refl _ _).drew))
    obtain ⟨x0, x1, x2, x3, x4, x5, x6, x7, x8, x9, x10, x11, x12, x13, x14⟩ := Hsh.out.all15
    clear Hsh
    have Hsh := hd_ (HX.out.below (show Below u.heap.size u (u.alloc (.cells #[.int .i64 0, .int .i64 0, .int .i64 0, .int .i64 0, .int .i64 0, .slice none 0 0, .int .i64 0, .int .i64 0, .slice none 0 0, .int .i64 0, .int .i64 0, .int .i64 0, .string ⟨#[]⟩, .string ⟨#[]⟩, .int .i64 0] 37)) from (Below.refl _ _).alloc (Nat.le_refl _) _))
    obtain ⟨z0, z1, z2, z3, z4, z5, z6, z7, z8, z9, z10, z11, z12, z13, z14⟩ := Hsh.out.all15
    clear Hsh
    have hus := HUs.out
    go_region
    all_goals
      go_wp2_with fail
      go_meet
      case rel =>
        have hal : Below u.heap.size u (u.drew.alloc (.cells #[.int .i64 kd, .int .i64 id, .int .i64 nn, .int .i64 pid, .int .i64 pep, .slice P pn pc, .int .i64 tid, .int .i64 tep, .slice Q qn qc, .int .i64 sz, .int .i64 lv, .int .i64 ct, .string lo, .string hi, .int .i64 tp] 37)) := ((Below.refl _ _).drew).alloc (Nat.le_refl _) _
        exact ⟨rfl, by rw [← hus], hd_ ⟨HX.out.below hal, by rw [← hus]; exact Holds.new u.drew #[.int .i64 kd, .int .i64 id, .int .i64 nn, .int .i64 pid, .int .i64 pep, .slice P pn pc, .int .i64 tid, .int .i64 tep, .slice Q qn qc, .int .i64 sz, .int .i64 lv, .int .i64 ct, .string lo, .string hi, .int .i64 tp] 37, hal⟩⟩
  case rest =>
  obtain ⟨rfl, rfl, HC⟩ := hcut
  have HB2 := hd_ (below_next HB.out HC.out.2.2)
  have HP2 := hd_ (HP.out.below HC.out.2.2)
  have HQ2 := hd_ (HQ.out.below HC.out.2.2)
  have HX2 := hd_ HC.out.1
  have HY2 := hd_ HC.out.2.1
  clear HX HB HP HQ HC HUs
  have ne0 : w.heap.size ≠ w.heap.size + 1 := by omega
  have x0 := HX2.out.at_ 0 rfl
  have q1 : (kd == 1) = false := beq_eq_false_iff_ne.2 hk.1
  have q2 : (kd == 2) = false := beq_eq_false_iff_ne.2 hk.2.1
  have q3 : (kd == 3) = false := beq_eq_false_iff_ne.2 hk.2.2.1
  have q4 : (kd == 4) = false := beq_eq_false_iff_ne.2 hk.2.2.2.1
  have q5 : (kd == 5) = false := beq_eq_false_iff_ne.2 hk.2.2.2.2.1
  have q6 : (kd == 6) = false := beq_eq_false_iff_ne.2 hk.2.2.2.2.2.1
  have q7 : (kd == 7) = false := beq_eq_false_iff_ne.2 hk.2.2.2.2.2.2
  go_wp2
  go_ret
  exact ⟨by rw [← HA.out]; rfl, HB2.out⟩
end Go.Proofs.YthfcjlndaajkfaaGreat
