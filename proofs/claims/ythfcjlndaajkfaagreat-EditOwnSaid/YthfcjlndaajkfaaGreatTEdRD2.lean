/- The document's do: an edit of kind 1. The document's do: an edit of kind 2. -/
import Derived.Test.YthfcjlndaajkfaaGreatTEdRC0
namespace Go.Proofs.YthfcjlndaajkfaaGreat
open Go.RowKit
set_option linter.unusedVariables false
set_option linter.unusedSimpArgs false
theorem Ed.do1_1 {v : Ed.Ve} {e : Ed.Et} (h : e.kd = 1) : Ed.do1 v e = if v.nx ≤ e.n then some { v with nx := e.n } else none := by unfold Ed.do1; rw [if_pos h]
set_option maxRecDepth 100000 in
set_option maxHeartbeats 32000000 in
theorem rdo1_any (nx sq : Int) (A : Option Addr) (n c : Nat) (B : Option Addr) (m d : Nat) (L : List (Ed.Lg × List (Int × Int))) (M : List (Pk.Tb × List (Int × Int))) (x : Ed.Ex) (w : World) {base : Nat} (hS : StR w base A n c L B m d M) (hbw : base ≤ w.heap.size) (hx : Ed.ExOk w x) (ho : (Ed.etOf x).ok = true) (hk : (Ed.etOf x).kd = 1) (hn : n ≤ 100000) (hm : m ≤ 100000) :
    Calls Tryz.prog 50 #[.agg #[.int .i64 nx, .int .i64 sq, .slice A n c, .slice B m d], .agg x.1.cells.toArray] w (GivesRDo w base A L B M x.1.P x.1.pn x.1.t.P x.1.t.pn (Ed.do1 ⟨nx, sq, L.map Ed.loOf, M.map Ed.taOf⟩ (Ed.etOf x))) := by
  obtain ⟨⟨kd, id, nn, pid, pep, P, pn, pc, ⟨tid, tep, Q, qn, qc, sz, lv, ct, lo, hi, tp⟩⟩, ps, qs⟩ := x
  have hk : kd = 1 := hk
  subst hk
  have HO := hd_ ho
  have HEx := hd_ hx
  have HS := hd_ hS
  have HW := hd_ hbw
  obtain ⟨r, hr⟩ : ∃ r, r = Ed.do1 ⟨nx, sq, L.map Ed.loOf, M.map Ed.taOf⟩ (Ed.etOf (⟨1, id, nn, pid, pep, P, pn, pc, ⟨tid, tep, Q, qn, qc, sz, lv, ct, lo, hi, tp⟩⟩, (ps, qs))) := ⟨_, rfl⟩
  rw [← hr]
  show Calls Tryz.prog 50 #[.agg #[.int .i64 nx, .int .i64 sq, .slice A n c, .slice B m d], .agg #[.int .i64 1, .int .i64 id, .int .i64 nn, .int .i64 pid, .int .i64 pep, .slice P pn pc, .int .i64 tid, .int .i64 tep, .slice Q qn qc, .int .i64 sz, .int .i64 lv, .int .i64 ct, .string lo, .string hi, .int .i64 tp]] w (GivesRDo w base A L B M P pn Q qn r)
  have HR := hd_ hr
  have hbu : Below w.heap.size w (((w.alloc (.cells #[.int .i64 nx, .int .i64 sq, .slice A n c, .slice B m d] 25)).alloc (.cells #[.int .i64 1, .int .i64 id, .int .i64 nn, .int .i64 pid, .int .i64 pep, .slice P pn pc, .int .i64 tid, .int .i64 tep, .slice Q qn qc, .int .i64 sz, .int .i64 lv, .int .i64 ct, .string lo, .string hi, .int .i64 tp] 37)).alloc (.cells #[.int .i64 0, .int .i64 0, .slice none 0 0, .slice none 0 0] 25)) := (((Below.refl _ _).alloc (Nat.le_refl _) _).alloc (by simp) _).alloc (by simp <;> omega) _
  have HBx := hd_ (show Bx3 w [.int .i64 nx, .int .i64 sq, .slice A n c, .slice B m d] [.int .i64 1, .int .i64 id, .int .i64 nn, .int .i64 pid, .int .i64 pep, .slice P pn pc, .int .i64 tid, .int .i64 tep, .slice Q qn qc, .int .i64 sz, .int .i64 lv, .int .i64 ct, .string lo, .string hi, .int .i64 tp] (((w.alloc (.cells #[.int .i64 nx, .int .i64 sq, .slice A n c, .slice B m d] 25)).alloc (.cells #[.int .i64 1, .int .i64 id, .int .i64 nn, .int .i64 pid, .int .i64 pep, .slice P pn pc, .int .i64 tid, .int .i64 tep, .slice Q qn qc, .int .i64 sz, .int .i64 lv, .int .i64 ct, .string lo, .string hi, .int .i64 tp] 37)).alloc (.cells #[.int .i64 0, .int .i64 0, .slice none 0 0, .slice none 0 0] 25)) from ⟨((Holds.new w #[.int .i64 nx, .int .i64 sq, .slice A n c, .slice B m d] 25).alloc _).alloc _, by have h := (Holds.new (w.alloc (.cells #[.int .i64 nx, .int .i64 sq, .slice A n c, .slice B m d] 25)) #[.int .i64 1, .int .i64 id, .int .i64 nn, .int .i64 pid, .int .i64 pep, .slice P pn pc, .int .i64 tid, .int .i64 tep, .slice Q qn qc, .int .i64 sz, .int .i64 lv, .int .i64 ct, .string lo, .string hi, .int .i64 tp] 37).alloc (.cells #[.int .i64 0, .int .i64 0, .slice none 0 0, .slice none 0 0] 25); simpa using h, by have h := Holds.new ((w.alloc (.cells #[.int .i64 nx, .int .i64 sq, .slice A n c, .slice B m d] 25)).alloc (.cells #[.int .i64 1, .int .i64 id, .int .i64 nn, .int .i64 pid, .int .i64 pep, .slice P pn pc, .int .i64 tid, .int .i64 tep, .slice Q qn qc, .int .i64 sz, .int .i64 lv, .int .i64 ct, .string lo, .string hi, .int .i64 tp] 37)) #[.int .i64 0, .int .i64 0, .slice none 0 0, .slice none 0 0] 25; simpa using h, hbu⟩)
  clear hS hx ho hbw hr hbu
  go_enter Tryz.func50, Tryz.ntmps50
  go_upto_region 1 with fail
  generalize (((w.alloc (.cells #[.int .i64 nx, .int .i64 sq, .slice A n c, .slice B m d] 25)).alloc (.cells #[.int .i64 1, .int .i64 id, .int .i64 nn, .int .i64 pid, .int .i64 pep, .slice P pn pc, .int .i64 tid, .int .i64 tep, .slice Q qn qc, .int .i64 sz, .int .i64 lv, .int .i64 ct, .string lo, .string hi, .int .i64 tp] 37)).alloc (.cells #[.int .i64 0, .int .i64 0, .slice none 0 0, .slice none 0 0] 25)) = u at *
  have e0 := HBx.out.e.at_ 0 rfl
  have e2 := HBx.out.e.at_ 2 rfl
  have v0 := HBx.out.v.at_ 0 rfl
  have gv := HBx.out.v.2.2 0
  by_cases h : nx ≤ nn
  · have HB1 := hd_ (show Bx3 w [.int .i64 nn, .int .i64 sq, .slice A n c, .slice B m d] [.int .i64 1, .int .i64 id, .int .i64 nn, .int .i64 pid, .int .i64 pep, .slice P pn pc, .int .i64 tid, .int .i64 tep, .slice Q qn qc, .int .i64 sz, .int .i64 lv, .int .i64 ct, .string lo, .string hi, .int .i64 tp] (u.setCell ⟨w.heap.size, 0, none⟩ (.int .i64 nn)) from HBx.out.set 0 (.int .i64 nn) (by simp))
    have hr1 : r = some ⟨nn, sq, L.map Ed.loOf, M.map Ed.taOf⟩ := by rw [HR.out, Ed.do1_1 rfl]; exact if_pos h
    subst hr1
    clear HR
    go_upto_region 10 with fail
    clear e0 e2 v0 gv HBx
    generalize (u.setCell ⟨w.heap.size, 0, none⟩ (.int .i64 nn)) = u1 at *
    obtain ⟨b0, b1, b2, b3⟩ := HB1.out.v.all4
    obtain ⟨f0, f1, f2, f3⟩ := HB1.out.z.all4
    obtain ⟨g0, g1, g2, g3⟩ := HB1.out.z.free4
    have HZ := hd_ (show Holds ((((u1.setCell ⟨w.heap.size + 2, 0, none⟩ (.int .i64 nn)).setCell ⟨w.heap.size + 2, 1, none⟩ (.int .i64 sq)).setCell ⟨w.heap.size + 2, 2, none⟩ (.slice A n c)).setCell ⟨w.heap.size + 2, 3, none⟩ (.slice B m d)) (w.heap.size + 2) [.int .i64 nn, .int .i64 sq, .slice A n c, .slice B m d] from HB1.out.z.put4 _ _ _ _)
    have HBz := hd_ (show Below w.heap.size w ((((u1.setCell ⟨w.heap.size + 2, 0, none⟩ (.int .i64 nn)).setCell ⟨w.heap.size + 2, 1, none⟩ (.int .i64 sq)).setCell ⟨w.heap.size + 2, 2, none⟩ (.slice A n c)).setCell ⟨w.heap.size + 2, 3, none⟩ (.slice B m d)) from HB1.out.b.grown (grown4 _ _ _ _ _ _) HB1.out.b.size (fun g e => by injection e with e; omega))
    go_wp2_with fail
    clear b0 b1 b2 b3 f0 f1 f2 f3 g0 g1 g2 g3
    generalize ((((u1.setCell ⟨w.heap.size + 2, 0, none⟩ (.int .i64 nn)).setCell ⟨w.heap.size + 2, 1, none⟩ (.int .i64 sq)).setCell ⟨w.heap.size + 2, 2, none⟩ (.slice A n c)).setCell ⟨w.heap.size + 2, 3, none⟩ (.slice B m d)) = z at *
    obtain ⟨y0, y1, y2, y3⟩ := HZ.out.all4
    refine bodyPost_ret (v := .tuple #[.agg #[.int .i64 nn, .int .i64 sq, .slice A n c, .slice B m d], .bool true]) ?_ rfl (⟨nn, sq, A, n, c, L, B, m, d, M, rfl, grown_any _ HBz.out, fun v hv => ⟨(Option.some.inj hv).symm, HS.out.below HBz.out, fun b hb hf h1 h2 => hf⟩⟩)
    simp [results, Tryz.results50, go_sem, y0, y1, y2, y3]
  · have HB1 := hd_ (show Bx3 w [.int .i64 nn, .int .i64 sq, .slice A n c, .slice B m d] [.int .i64 1, .int .i64 id, .int .i64 nn, .int .i64 pid, .int .i64 pep, .slice P pn pc, .int .i64 tid, .int .i64 tep, .slice Q qn qc, .int .i64 sz, .int .i64 lv, .int .i64 ct, .string lo, .string hi, .int .i64 tp] (u.setCell ⟨w.heap.size, 0, none⟩ (.int .i64 nn)) from HBx.out.set 0 (.int .i64 nn) (by simp))
    have hr1 : r = none := by rw [HR.out, Ed.do1_1 rfl]; exact if_neg h
    subst hr1
    clear HR
    go_upto_region 10 with fail
    clear e0 e2 v0 gv HBx
    generalize (u.setCell ⟨w.heap.size, 0, none⟩ (.int .i64 nn)) = u1 at *
    obtain ⟨b0, b1, b2, b3⟩ := HB1.out.v.all4
    obtain ⟨f0, f1, f2, f3⟩ := HB1.out.z.all4
    obtain ⟨g0, g1, g2, g3⟩ := HB1.out.z.free4
    have HZ := hd_ (show Holds ((((u1.setCell ⟨w.heap.size + 2, 0, none⟩ (.int .i64 nn)).setCell ⟨w.heap.size + 2, 1, none⟩ (.int .i64 sq)).setCell ⟨w.heap.size + 2, 2, none⟩ (.slice A n c)).setCell ⟨w.heap.size + 2, 3, none⟩ (.slice B m d)) (w.heap.size + 2) [.int .i64 nn, .int .i64 sq, .slice A n c, .slice B m d] from HB1.out.z.put4 _ _ _ _)
    have HBz := hd_ (show Below w.heap.size w ((((u1.setCell ⟨w.heap.size + 2, 0, none⟩ (.int .i64 nn)).setCell ⟨w.heap.size + 2, 1, none⟩ (.int .i64 sq)).setCell ⟨w.heap.size + 2, 2, none⟩ (.slice A n c)).setCell ⟨w.heap.size + 2, 3, none⟩ (.slice B m d)) from HB1.out.b.grown (grown4 _ _ _ _ _ _) HB1.out.b.size (fun g e => by injection e with e; omega))
    go_wp2_with fail
    clear b0 b1 b2 b3 f0 f1 f2 f3 g0 g1 g2 g3
    generalize ((((u1.setCell ⟨w.heap.size + 2, 0, none⟩ (.int .i64 nn)).setCell ⟨w.heap.size + 2, 1, none⟩ (.int .i64 sq)).setCell ⟨w.heap.size + 2, 2, none⟩ (.slice A n c)).setCell ⟨w.heap.size + 2, 3, none⟩ (.slice B m d)) = z at *
    obtain ⟨y0, y1, y2, y3⟩ := HZ.out.all4
    refine bodyPost_ret (v := .tuple #[.agg #[.int .i64 nn, .int .i64 sq, .slice A n c, .slice B m d], .bool false]) ?_ rfl (⟨nn, sq, A, n, c, L, B, m, d, M, rfl, grown_any _ HBz.out, fun v hv => (by cases hv)⟩)
    simp [results, Tryz.results50, go_sem, y0, y1, y2, y3]
end Go.Proofs.YthfcjlndaajkfaaGreat
namespace Go.Proofs.YthfcjlndaajkfaaGreat
open Go.RowKit
set_option linter.unusedVariables false
set_option linter.unusedSimpArgs false
theorem Ed.do1_2 {v : Ed.Ve} {e : Ed.Et} (h : e.kd = 2) : Ed.do1 v e = if v.sq ≤ e.n then some { v with sq := e.n } else none := by unfold Ed.do1; rw [if_neg (by omega), if_pos h]
set_option maxRecDepth 100000 in
set_option maxHeartbeats 32000000 in
theorem rdo2_any (nx sq : Int) (A : Option Addr) (n c : Nat) (B : Option Addr) (m d : Nat) (L : List (Ed.Lg × List (Int × Int))) (M : List (Pk.Tb × List (Int × Int))) (x : Ed.Ex) (w : World) {base : Nat} (hS : StR w base A n c L B m d M) (hbw : base ≤ w.heap.size) (hx : Ed.ExOk w x) (ho : (Ed.etOf x).ok = true) (hk : (Ed.etOf x).kd = 2) (hn : n ≤ 100000) (hm : m ≤ 100000) :
    Calls Tryz.prog 50 #[.agg #[.int .i64 nx, .int .i64 sq, .slice A n c, .slice B m d], .agg x.1.cells.toArray] w (GivesRDo w base A L B M x.1.P x.1.pn x.1.t.P x.1.t.pn (Ed.do1 ⟨nx, sq, L.map Ed.loOf, M.map Ed.taOf⟩ (Ed.etOf x))) := by
  obtain ⟨⟨kd, id, nn, pid, pep, P, pn, pc, ⟨tid, tep, Q, qn, qc, sz, lv, ct, lo, hi, tp⟩⟩, ps, qs⟩ := x
  have hk : kd = 2 := hk
  subst hk
  have HO := hd_ ho
  have HEx := hd_ hx
  have HS := hd_ hS
  have HW := hd_ hbw
  obtain ⟨r, hr⟩ : ∃ r, r = Ed.do1 ⟨nx, sq, L.map Ed.loOf, M.map Ed.taOf⟩ (Ed.etOf (⟨2, id, nn, pid, pep, P, pn, pc, ⟨tid, tep, Q, qn, qc, sz, lv, ct, lo, hi, tp⟩⟩, (ps, qs))) := ⟨_, rfl⟩
  rw [← hr]
  show Calls Tryz.prog 50 #[.agg #[.int .i64 nx, .int .i64 sq, .slice A n c, .slice B m d], .agg #[.int .i64 2, .int .i64 id, .int .i64 nn, .int .i64 pid, .int .i64 pep, .slice P pn pc, .int .i64 tid, .int .i64 tep, .slice Q qn qc, .int .i64 sz, .int .i64 lv, .int .i64 ct, .string lo, .string hi, .int .i64 tp]] w (GivesRDo w base A L B M P pn Q qn r)
  have HR := hd_ hr
  have hbu : Below w.heap.size w (((w.alloc (.cells #[.int .i64 nx, .int .i64 sq, .slice A n c, .slice B m d] 25)).alloc (.cells #[.int .i64 2, .int .i64 id, .int .i64 nn, .int .i64 pid, .int .i64 pep, .slice P pn pc, .int .i64 tid, .int .i64 tep, .slice Q qn qc, .int .i64 sz, .int .i64 lv, .int .i64 ct, .string lo, .string hi, .int .i64 tp] 37)).alloc (.cells #[.int .i64 0, .int .i64 0, .slice none 0 0, .slice none 0 0] 25)) := (((Below.refl _ _).alloc (Nat.le_refl _) _).alloc (by simp) _).alloc (by simp <;> omega) _
  have HBx := hd_ (show Bx3 w [.int .i64 nx, .int .i64 sq, .slice A n c, .slice B m d] [.int .i64 2, .int .i64 id, .int .i64 nn, .int .i64 pid, .int .i64 pep, .slice P pn pc, .int .i64 tid, .int .i64 tep, .slice Q qn qc, .int .i64 sz, .int .i64 lv, .int .i64 ct, .string lo, .string hi, .int .i64 tp] (((w.alloc (.cells #[.int .i64 nx, .int .i64 sq, .slice A n c, .slice B m d] 25)).alloc (.cells #[.int .i64 2, .int .i64 id, .int .i64 nn, .int .i64 pid, .int .i64 pep, .slice P pn pc, .int .i64 tid, .int .i64 tep, .slice Q qn qc, .int .i64 sz, .int .i64 lv, .int .i64 ct, .string lo, .string hi, .int .i64 tp] 37)).alloc (.cells #[.int .i64 0, .int .i64 0, .slice none 0 0, .slice none 0 0] 25)) from ⟨((Holds.new w #[.int .i64 nx, .int .i64 sq, .slice A n c, .slice B m d] 25).alloc _).alloc _, by have h := (Holds.new (w.alloc (.cells #[.int .i64 nx, .int .i64 sq, .slice A n c, .slice B m d] 25)) #[.int .i64 2, .int .i64 id, .int .i64 nn, .int .i64 pid, .int .i64 pep, .slice P pn pc, .int .i64 tid, .int .i64 tep, .slice Q qn qc, .int .i64 sz, .int .i64 lv, .int .i64 ct, .string lo, .string hi, .int .i64 tp] 37).alloc (.cells #[.int .i64 0, .int .i64 0, .slice none 0 0, .slice none 0 0] 25); simpa using h, by have h := Holds.new ((w.alloc (.cells #[.int .i64 nx, .int .i64 sq, .slice A n c, .slice B m d] 25)).alloc (.cells #[.int .i64 2, .int .i64 id, .int .i64 nn, .int .i64 pid, .int .i64 pep, .slice P pn pc, .int .i64 tid, .int .i64 tep, .slice Q qn qc, .int .i64 sz, .int .i64 lv, .int .i64 ct, .string lo, .string hi, .int .i64 tp] 37)) #[.int .i64 0, .int .i64 0, .slice none 0 0, .slice none 0 0] 25; simpa using h, hbu⟩)
  clear hS hx ho hbw hr hbu
  go_enter Tryz.func50, Tryz.ntmps50
  go_upto_region 1 with fail
  generalize (((w.alloc (.cells #[.int .i64 nx, .int .i64 sq, .slice A n c, .slice B m d] 25)).alloc (.cells #[.int .i64 2, .int .i64 id, .int .i64 nn, .int .i64 pid, .int .i64 pep, .slice P pn pc, .int .i64 tid, .int .i64 tep, .slice Q qn qc, .int .i64 sz, .int .i64 lv, .int .i64 ct, .string lo, .string hi, .int .i64 tp] 37)).alloc (.cells #[.int .i64 0, .int .i64 0, .slice none 0 0, .slice none 0 0] 25)) = u at *
  have e0 := HBx.out.e.at_ 0 rfl
  have e2 := HBx.out.e.at_ 2 rfl
  have v0 := HBx.out.v.at_ 1 rfl
  have gv := HBx.out.v.2.2 1
  by_cases h : sq ≤ nn
  · have HB1 := hd_ (show Bx3 w [.int .i64 nx, .int .i64 nn, .slice A n c, .slice B m d] [.int .i64 2, .int .i64 id, .int .i64 nn, .int .i64 pid, .int .i64 pep, .slice P pn pc, .int .i64 tid, .int .i64 tep, .slice Q qn qc, .int .i64 sz, .int .i64 lv, .int .i64 ct, .string lo, .string hi, .int .i64 tp] (u.setCell ⟨w.heap.size, 1, none⟩ (.int .i64 nn)) from HBx.out.set 1 (.int .i64 nn) (by simp))
    have hr1 : r = some ⟨nx, nn, L.map Ed.loOf, M.map Ed.taOf⟩ := by rw [HR.out, Ed.do1_2 rfl]; exact if_pos h
    subst hr1
    clear HR
    go_upto_region 14 with fail
    clear e0 e2 v0 gv HBx
    generalize (u.setCell ⟨w.heap.size, 1, none⟩ (.int .i64 nn)) = u1 at *
    obtain ⟨b0, b1, b2, b3⟩ := HB1.out.v.all4
    obtain ⟨f0, f1, f2, f3⟩ := HB1.out.z.all4
    obtain ⟨g0, g1, g2, g3⟩ := HB1.out.z.free4
    have HZ := hd_ (show Holds ((((u1.setCell ⟨w.heap.size + 2, 0, none⟩ (.int .i64 nx)).setCell ⟨w.heap.size + 2, 1, none⟩ (.int .i64 nn)).setCell ⟨w.heap.size + 2, 2, none⟩ (.slice A n c)).setCell ⟨w.heap.size + 2, 3, none⟩ (.slice B m d)) (w.heap.size + 2) [.int .i64 nx, .int .i64 nn, .slice A n c, .slice B m d] from HB1.out.z.put4 _ _ _ _)
    have HBz := hd_ (show Below w.heap.size w ((((u1.setCell ⟨w.heap.size + 2, 0, none⟩ (.int .i64 nx)).setCell ⟨w.heap.size + 2, 1, none⟩ (.int .i64 nn)).setCell ⟨w.heap.size + 2, 2, none⟩ (.slice A n c)).setCell ⟨w.heap.size + 2, 3, none⟩ (.slice B m d)) from HB1.out.b.grown (grown4 _ _ _ _ _ _) HB1.out.b.size (fun g e => by injection e with e; omega))
    go_wp2_with fail
    clear b0 b1 b2 b3 f0 f1 f2 f3 g0 g1 g2 g3
    generalize ((((u1.setCell ⟨w.heap.size + 2, 0, none⟩ (.int .i64 nx)).setCell ⟨w.heap.size + 2, 1, none⟩ (.int .i64 nn)).setCell ⟨w.heap.size + 2, 2, none⟩ (.slice A n c)).setCell ⟨w.heap.size + 2, 3, none⟩ (.slice B m d)) = z at *
    obtain ⟨y0, y1, y2, y3⟩ := HZ.out.all4
    refine bodyPost_ret (v := .tuple #[.agg #[.int .i64 nx, .int .i64 nn, .slice A n c, .slice B m d], .bool true]) ?_ rfl (⟨nx, nn, A, n, c, L, B, m, d, M, rfl, grown_any _ HBz.out, fun v hv => ⟨(Option.some.inj hv).symm, HS.out.below HBz.out, fun b hb hf h1 h2 => hf⟩⟩)
    simp [results, Tryz.results50, go_sem, y0, y1, y2, y3]
  · have HB1 := hd_ (show Bx3 w [.int .i64 nx, .int .i64 nn, .slice A n c, .slice B m d] [.int .i64 2, .int .i64 id, .int .i64 nn, .int .i64 pid, .int .i64 pep, .slice P pn pc, .int .i64 tid, .int .i64 tep, .slice Q qn qc, .int .i64 sz, .int .i64 lv, .int .i64 ct, .string lo, .string hi, .int .i64 tp] (u.setCell ⟨w.heap.size, 1, none⟩ (.int .i64 nn)) from HBx.out.set 1 (.int .i64 nn) (by simp))
    have hr1 : r = none := by rw [HR.out, Ed.do1_2 rfl]; exact if_neg h
    subst hr1
    clear HR
    go_upto_region 14 with fail
    clear e0 e2 v0 gv HBx
    generalize (u.setCell ⟨w.heap.size, 1, none⟩ (.int .i64 nn)) = u1 at *
    obtain ⟨b0, b1, b2, b3⟩ := HB1.out.v.all4
    obtain ⟨f0, f1, f2, f3⟩ := HB1.out.z.all4
    obtain ⟨g0, g1, g2, g3⟩ := HB1.out.z.free4
    have HZ := hd_ (show Holds ((((u1.setCell ⟨w.heap.size + 2, 0, none⟩ (.int .i64 nx)).setCell ⟨w.heap.size + 2, 1, none⟩ (.int .i64 nn)).setCell ⟨w.heap.size + 2, 2, none⟩ (.slice A n c)).setCell ⟨w.heap.size + 2, 3, none⟩ (.slice B m d)) (w.heap.size + 2) [.int .i64 nx, .int .i64 nn, .slice A n c, .slice B m d] from HB1.out.z.put4 _ _ _ _)
    have HBz := hd_ (show Below w.heap.size w ((((u1.setCell ⟨w.heap.size + 2, 0, none⟩ (.int .i64 nx)).setCell ⟨w.heap.size + 2, 1, none⟩ (.int .i64 nn)).setCell ⟨w.heap.size + 2, 2, none⟩ (.slice A n c)).setCell ⟨w.heap.size + 2, 3, none⟩ (.slice B m d)) from HB1.out.b.grown (grown4 _ _ _ _ _ _) HB1.out.b.size (fun g e => by injection e with e; omega))
    go_wp2_with fail
    clear b0 b1 b2 b3 f0 f1 f2 f3 g0 g1 g2 g3
    generalize ((((u1.setCell ⟨w.heap.size + 2, 0, none⟩ (.int .i64 nx)).setCell ⟨w.heap.size + 2, 1, none⟩ (.int .i64 nn)).setCell ⟨w.heap.size + 2, 2, none⟩ (.slice A n c)).setCell ⟨w.heap.size + 2, 3, none⟩ (.slice B m d)) = z at *
    obtain ⟨y0, y1, y2, y3⟩ := HZ.out.all4
    refine bodyPost_ret (v := .tuple #[.agg #[.int .i64 nx, .int .i64 nn, .slice A n c, .slice B m d], .bool false]) ?_ rfl (⟨nx, nn, A, n, c, L, B, m, d, M, rfl, grown_any _ HBz.out, fun v hv => (by cases hv)⟩)
    simp [results, Tryz.results50, go_sem, y0, y1, y2, y3]
end Go.Proofs.YthfcjlndaajkfaaGreat
