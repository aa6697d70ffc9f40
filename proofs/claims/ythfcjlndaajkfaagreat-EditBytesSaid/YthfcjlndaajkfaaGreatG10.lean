/- edit.do: there is a log. edit.doToLog; edit.do: a log is sealed. edit.do: a log is gone. edit.do: there is a table. edit.do: a table is gone. -/
import Derived.Test.YthfcjlndaajkfaaGreatG09
namespace Go.Proofs.YthfcjlndaajkfaaGreat
open Go.RowKit
set_option linter.unusedVariables false
set_option maxRecDepth 100000 in
set_option maxHeartbeats 8000000 in
theorem do3_any {w : World} {base vb : Nat} {nx sq : Int} {A : Option Addr} {n c : Nat} {L : List (Ed.Lg × List (Int × Int))} {B : Option Addr} {m d : Nat} {M : List (Pk.Tb × List (Int × Int))} (hst : StV w base vb nx sq A n c L B m d M) (hbw : base ≤ w.heap.size) (id nn pid pep : Int) (P : Option Addr) (pn pc : Nat) (ps : List (Int × Int)) (tid tep : Int) (Q : Option Addr) (qn qc : Nat) (sz lv ct : Int) (lo hi : ByteArray) (tp : Int) (qs : List (Int × Int)) (hn : n ≤ 50000) (hP : PairsOk w P pn pc ps) (hpn : pn ≤ 100000) (hpid : 1 ≤ pid ∧ pid ≤ 2147483647) (hs : (L.map (·.1.id)).Pairwise (· < ·)) (hb : ∀ y ∈ L.map (·.1.id), 0 ≤ y ∧ y ≤ 2147483647) :
    Calls Tryz.prog 48 #[.pointer (some ⟨vb, 0, none⟩), .agg #[.int .i64 3, .int .i64 id, .int .i64 nn, .int .i64 pid, .int .i64 pep, .slice P pn pc, .int .i64 tid, .int .i64 tep, .slice Q qn qc, .int .i64 sz, .int .i64 lv, .int .i64 ct, .string lo, .string hi, .int .i64 tp]] w (GivesDo w base vb (Ed.do1 (⟨nx, sq, L.map Ed.loOf, M.map Ed.taOf⟩ : Ed.Ve) (⟨3, id, nn, ⟨pid, pep, ps⟩, ⟨⟨tid, tep, qs⟩, sz, lv, ct, lo, hi, tp⟩⟩ : Ed.Et))) := by
  have hal : Below w.heap.size w (w.alloc (.cells #[.int .i64 3, .int .i64 id, .int .i64 nn, .int .i64 pid, .int .i64 pep, .slice P pn pc, .int .i64 tid, .int .i64 tep, .slice Q qn qc, .int .i64 sz, .int .i64 lv, .int .i64 ct, .string lo, .string hi, .int .i64 tp] 37)) := (Below.refl _ _).alloc (Nat.le_refl _) _
  have hvb := hst.box.1
  have HX := Lib.hid (Holds.new w #[.int .i64 3, .int .i64 id, .int .i64 nn, .int .i64 pid, .int .i64 pep, .slice P pn pc, .int .i64 tid, .int .i64 tep, .slice Q qn qc, .int .i64 sz, .int .i64 lv, .int .i64 ct, .string lo, .string hi, .int .i64 tp] 37)
  have HS := Lib.hid (hst.below hal)
  have HB := Lib.hid (show Below base w (w.alloc (.cells #[.int .i64 3, .int .i64 id, .int .i64 nn, .int .i64 pid, .int .i64 pep, .slice P pn pc, .int .i64 tid, .int .i64 tep, .slice Q qn qc, .int .i64 sz, .int .i64 lv, .int .i64 ct, .string lo, .string hi, .int .i64 tp] 37)) from hal.mono hbw)
  have HP := Lib.hid (hP.below hal)
  have hlo := hst.lo
  clear hal hP
  obtain ⟨r, hr⟩ : ∃ r, r = Ed.do1 (⟨nx, sq, L.map Ed.loOf, M.map Ed.taOf⟩ : Ed.Ve) (⟨3, id, nn, ⟨pid, pep, ps⟩, ⟨⟨tid, tep, qs⟩, sz, lv, ct, lo, hi, tp⟩⟩ : Ed.Et) := ⟨_, rfl⟩
  rw [← hr]
  have hrd : r = match Ed.find (L.map (·.1.id)) pid with | some _ => none | none => some { (⟨nx, sq, L.map Ed.loOf, M.map Ed.taOf⟩ : Ed.Ve) with ls := Ed.put (L.map Ed.loOf) (Ed.pos (L.map (·.1.id)) pid) ⟨⟨pid, pep, ps⟩, -1⟩ } := by
    rw [hr]
    show (match Ed.find ((L.map Ed.loOf).map fun l : Ed.Lo => l.p.id) pid with | some _ => none | none => some { (⟨nx, sq, L.map Ed.loOf, M.map Ed.taOf⟩ : Ed.Ve) with ls := Ed.put (L.map Ed.loOf) (Ed.pos ((L.map Ed.loOf).map fun l : Ed.Lo => l.p.id) pid) ⟨⟨pid, pep, ps⟩, -1⟩ }) = _
    rw [Ed.lids]
  have HR := Lib.hid hrd
  clear hr hrd
  have hk := Ed.pos_le (L.map (·.1.id)) pid
  rw [List.length_map, HS.out.own.ls.len] at hk
  go_enter Tryz.func48, Tryz.ntmps48
  go_upto_region 1 with fail
  generalize (w.alloc (.cells #[.int .i64 3, .int .i64 id, .int .i64 nn, .int .i64 pid, .int .i64 pep, .slice P pn pc, .int .i64 tid, .int .i64 tep, .slice Q qn qc, .int .i64 sz, .int .i64 lv, .int .i64 ct, .string lo, .string hi, .int .i64 tp] 37)) = u at *
  replace HX : Hid (Holds u w.heap.size [.int .i64 3, .int .i64 id, .int .i64 nn, .int .i64 pid, .int .i64 pep, .slice P pn pc, .int .i64 tid, .int .i64 tep, .slice Q qn qc, .int .i64 sz, .int .i64 lv, .int .i64 ct, .string lo, .string hi, .int .i64 tp]) := HX
  have x0 := HX.out.at_ 0 rfl
  have HCl := Lib.hid (fun (W : World) (hW : Below u.heap.size u W) => And.intro ((HS.out.below hW).box.at_ 2 rfl) ((HX.out.below hW).at_ 3 rfl))
  have HBin := Lib.hid (fun (W : World) (hW : Below u.heap.size u W) => binlog_any A n c L pid W (HS.out.own.below hW).ls.rd (by omega) hs hb ⟨by omega, hpid.2⟩)
  clear hs hb
  generalize hkk : Ed.pos (L.map (·.1.id)) pid = k at *
  generalize hfs : (Ed.find (L.map (·.1.id)) pid).isSome = fs at *
  have HFS := Lib.hid hfs
  clear hfs hkk
  go_wp2_with fail
  clear x0
  refine region_class (fun W => Below u.heap.size u W) (by kernel_rfl) (by kernel_rfl) ((Below.refl _ _).drew) ?_
  repeat (go_big_quiet_step ((first | (intro _; with_reducible rfl) | (intro hq; exact calls_class hq (HBin.out _ hq)) | (intro hq; obtain ⟨e0, e1⟩ := HCl.out _ hq; simp [e0, e1, Result.andThen]; with_reducible rfl))))
  refine wpQuiet_nil ?_
  intro v hv
  have HSv := Lib.hid (HS.out.below hv)
  have HXv := Lib.hid (HX.out.below hv)
  have HPv := Lib.hid (HP.out.below hv)
  have HBv := Lib.hid (show Below base w v from HB.out.trans (hv.mono (Nat.le_trans hbw HB.out.size)))
  clear hv HBin HCl HS HX HP
  have hbd : Below v.heap.size v v.drew := (Below.refl _ _).drew
  have x3 := (HXv.out.below hbd).at_ 3 rfl
  have x4 := (HXv.out.below hbd).at_ 4 rfl
  have x5 := (HXv.out.below hbd).at_ 5 rfl
  have b2 := (HSv.out.box.below hbd).at_ 2 rfl
  have HPd := Lib.hid (HPv.out.below hbd)
  clear hbd
  go_wp2_with fail
  go_region_law (first
    | (refine step_call1 (by simp [Region.wanted]) 66 rfl (.tmp 65) rfl rfl enter_ownp ((ownplace_any pid pep P pn pc ps v.drew HPd.out.1 hpn).mono ?_); rintro e v2 ⟨P2, d2, rfl, hO, hb2⟩; have HB2 := Lib.hid (show Below v.heap.size v v2 from below_next (Below.refl v.heap.size v).drew hb2); have HO2 := Lib.hid (show OwP v2 v.heap.size P2 pn d2 ps from ⟨HPd.out.1.1, hO⟩); have b2v := (HSv.out.box.below HB2.out).at_ 2 rfl; have HB3 := Lib.hid (HB2.out.alloc HB2.out.size (.cells #[.int .i64 pid, .int .i64 pep, .slice P2 pn d2, .int .i64 (-1)] 62)); have b2a := (HSv.out.box.below HB3.out).at_ 2 rfl; have HIns := Lib.hid (show Calls Tryz.prog 70 #[.slice A n c, .int .i64 (k : Int), .slice (some ⟨v2.heap.size, 0, none⟩) 1 1] (v2.alloc (.cells #[.int .i64 pid, .int .i64 pep, .slice P2 pn d2, .int .i64 (-1)] 62)) (GivesIns 4 62 (v2.alloc (.cells #[.int .i64 pid, .int .i64 pep, .slice P2 pn d2, .int .i64 (-1)] 62)) base A n ((Ed.lflat (L.map (·.1))).take (k * 4) ++ [.int .i64 pid, .int .i64 pep, .slice P2 pn d2, .int .i64 (-1)] ++ (Ed.lflat (L.map (·.1))).drop (k * 4))) from inslog_st (HSv.out.below HB2.out) (Nat.le_trans (Nat.le_trans hbw HBv.out.size) HB2.out.size) ⟨pid, pep, P2, pn, d2, -1⟩ k hk hn); clear hO hb2; refine ⟨_, rfl, ?_⟩)
    | (refine step_call3 (by simp [Region.wanted]) 69 rfl (.tmp 62) (.tmp 63) (.tmp 68) rfl rfl rfl rfl enter_insl (HIns.out.mono ?_); rintro e v4 ⟨A4, c4, rfl, hO4, hG4, hb4⟩; have HI4 := Lib.hid (And.intro hO4 (And.intro hG4 hb4)); have q2 := ((HSv.out.below HB3.out).box.grown hG4 (fun e => HSv.out.va e)).at_ 2 rfl; have qf := ((HSv.out.below HB3.out).box.grown hG4 (fun e => HSv.out.va e)).2.2 2; clear hO4 hG4 hb4; refine ⟨_, rfl, ?_⟩))
  all_goals
    have hsz2 := HB2.out.size
    have hsz3 := HB3.out.size
    have hszv := Nat.le_trans hbw HBv.out.size
    have HOA := Lib.hid (show OwP (v2.alloc (.cells #[.int .i64 pid, .int .i64 pep, .slice P2 pn d2, .int .i64 (-1)] 62)) v.heap.size P2 pn d2 ps from HO2.out.below ((Below.refl _ _).alloc (Nat.le_refl _) _))
    have HQ := Lib.hid ((HSv.out.below HB3.out).putlog (x := (⟨pid, pep, P2, pn, d2, -1⟩, ps)) hk HI4.out.1 HI4.out.2.1 HI4.out.2.2 (HOA.out.base_ (by omega))
      (fun g h1 h2 => by have := (HOA.out.lt g h1).1; have := (HSv.out.own.ls.row.lt g h2).2; omega) (fun g h1 h2 => by have := (HOA.out.lt g h1).1; have := (HSv.out.own.ts.row.lt g h2).2; omega)
      (fun e => by have := (HOA.out.lt vb e).1; have := HSv.out.box.1; omega) ⟨⟨by show _ ≤ pid; omega, by show pid ≤ _; omega⟩, by show _ ≤ (-1 : Int); decide, by show (-1 : Int) ≤ _; decide⟩)
    have HBq := Lib.hid (show Below base w (v4.setCell ⟨vb, 2, none⟩ (.slice A4 (n + 1) c4)) from ((HBv.out.trans (HB3.out.mono hszv)).grown HI4.out.2.1 (Nat.le_trans hszv hsz3) (fun g e => (HSv.out.own.ls.row.lt g e).1)).setCell hlo _)
    clear hsz2 hsz3 hszv
    go_wp2
    go_ret
    cases fs with
    | true =>
      have h := HR.out
      obtain ⟨y, hy⟩ := Option.isSome_iff_exists.1 HFS.out
      rw [hy] at h
      have h : r = none := h
      rw [h]
      exact ⟨HBq.out, rfl⟩
    | false =>
      have h := HR.out
      have hy : Ed.find (L.map (·.1.id)) pid = none := by cases e : Ed.find (L.map (·.1.id)) pid with
        | none => rfl
        | some _ => have := HFS.out; rw [e] at this; cases this
      rw [hy] at h
      have h : r = some { (⟨nx, sq, L.map Ed.loOf, M.map Ed.taOf⟩ : Ed.Ve) with ls := Ed.put (L.map Ed.loOf) k ⟨⟨pid, pep, ps⟩, -1⟩ } := h
      rw [h]
      exact ⟨HBq.out, rfl, _, _, _, _, _, _, _, _, HQ.out, Ed.map_put _ _ _ _, rfl⟩
end Go.Proofs.YthfcjlndaajkfaaGreat
namespace Go.Proofs.YthfcjlndaajkfaaGreat
open Go.RowKit
set_option linter.unusedVariables false
set_option maxRecDepth 100000 in
set_option maxHeartbeats 8000000 in
theorem tolog4_any {w : World} {base vb : Nat} {nx sq : Int} {A : Option Addr} {n c : Nat} {L : List (Ed.Lg × List (Int × Int))} {B : Option Addr} {m d : Nat} {M : List (Pk.Tb × List (Int × Int))} (hst : StV w base vb nx sq A n c L B m d M) (hbw : base ≤ w.heap.size) (id nn pid pep : Int) (P : Option Addr) (pn pc : Nat) (ps : List (Int × Int)) (tid tep : Int) (Q : Option Addr) (qn qc : Nat) (sz lv ct : Int) (lo hi : ByteArray) (tp : Int) (qs : List (Int × Int)) (hn : n ≤ 100000) (hnn : -9223372036854775808 ≤ nn ∧ nn ≤ 9223372036854775807) :
    Calls Tryz.prog 77 #[.pointer (some ⟨vb, 0, none⟩), .agg #[.int .i64 4, .int .i64 id, .int .i64 nn, .int .i64 pid, .int .i64 pep, .slice P pn pc, .int .i64 tid, .int .i64 tep, .slice Q qn qc, .int .i64 sz, .int .i64 lv, .int .i64 ct, .string lo, .string hi, .int .i64 tp]] w (GivesDo w base vb (Ed.do1 (⟨nx, sq, L.map Ed.loOf, M.map Ed.taOf⟩ : Ed.Ve) (⟨4, id, nn, ⟨pid, pep, ps⟩, ⟨⟨tid, tep, qs⟩, sz, lv, ct, lo, hi, tp⟩⟩ : Ed.Et))) := by
  have hal : Below w.heap.size w (w.alloc (.cells #[.int .i64 4, .int .i64 id, .int .i64 nn, .int .i64 pid, .int .i64 pep, .slice P pn pc, .int .i64 tid, .int .i64 tep, .slice Q qn qc, .int .i64 sz, .int .i64 lv, .int .i64 ct, .string lo, .string hi, .int .i64 tp] 37)) := (Below.refl _ _).alloc (Nat.le_refl _) _
  have hvb := hst.box.1
  have HX := Lib.hid (Holds.new w #[.int .i64 4, .int .i64 id, .int .i64 nn, .int .i64 pid, .int .i64 pep, .slice P pn pc, .int .i64 tid, .int .i64 tep, .slice Q qn qc, .int .i64 sz, .int .i64 lv, .int .i64 ct, .string lo, .string hi, .int .i64 tp] 37)
  have HS := Lib.hid (hst.below hal)
  have HB := Lib.hid (show Below base w (w.alloc (.cells #[.int .i64 4, .int .i64 id, .int .i64 nn, .int .i64 pid, .int .i64 pep, .slice P pn pc, .int .i64 tid, .int .i64 tep, .slice Q qn qc, .int .i64 sz, .int .i64 lv, .int .i64 ct, .string lo, .string hi, .int .i64 tp] 37)) from hal.mono hbw)
  have hlo := hst.lo
  clear hal
  obtain ⟨r, hr⟩ : ∃ r, r = Ed.do1 (⟨nx, sq, L.map Ed.loOf, M.map Ed.taOf⟩ : Ed.Ve) (⟨4, id, nn, ⟨pid, pep, ps⟩, ⟨⟨tid, tep, qs⟩, sz, lv, ct, lo, hi, tp⟩⟩ : Ed.Et) := ⟨_, rfl⟩
  rw [← hr]
  have HR := Lib.hid hr
  clear hr
  go_enter Tryz.func77, Tryz.ntmps77
  go_upto_region 1 with fail
  generalize (w.alloc (.cells #[.int .i64 4, .int .i64 id, .int .i64 nn, .int .i64 pid, .int .i64 pep, .slice P pn pc, .int .i64 tid, .int .i64 tep, .slice Q qn qc, .int .i64 sz, .int .i64 lv, .int .i64 ct, .string lo, .string hi, .int .i64 tp] 37)) = u at *
  replace HX : Hid (Holds u w.heap.size [.int .i64 4, .int .i64 id, .int .i64 nn, .int .i64 pid, .int .i64 pep, .slice P pn pc, .int .i64 tid, .int .i64 tep, .slice Q qn qc, .int .i64 sz, .int .i64 lv, .int .i64 ct, .string lo, .string hi, .int .i64 tp]) := HX
  have v2 := HS.out.box.at_ 2 rfl
  have HI := Lib.hid (ixlog_any A n c L w.heap.size id u HS.out.own.ls.rd (by omega) (HX.out.at_ 1 rfl))
  have HLen := Lib.hid (show (L.map (·.1.id)).length = n by rw [List.length_map]; exact HS.out.own.ls.len)
  cases hf : Ed.find (L.map (·.1.id)) id with
  | none =>
    rw [hf] at HI
    have HF := Lib.hid (show r = none by rw [HR.out]; show (match Ed.find ((L.map Ed.loOf).map (·.p.id)) id with | none => none | some k => _) = none; rw [Ed.lids, hf])
    clear hf
    replace HI : Hid (Calls Tryz.prog 99 #[.slice A n c, .func (.func 100) #[] #[.pointer (some ⟨w.heap.size, 0, none⟩)]] u fun e w' => e = .returned (.int .i64 (-1)) ∧ Below u.heap.size u w') := HI
    go_wp2_with fail
    refine HI.out.mono ?_
    rintro e v ⟨rfl, hbv⟩
    have HV := Lib.hid (show Below base w v from HB.out.trans (hbv.mono (Nat.le_trans hbw HB.out.size)))
    clear hbv v2
    go_wp2
    go_ret
    rw [HF.out]
    exact ⟨HV.out, rfl⟩
  | some k =>
    rw [hf] at HI
    have hkn : k < n := by have := Ed.find_lt hf; have := HLen.out; omega
    have hki : (k : Int) < (n : Int) := by omega
    have hk0 : ¬ (k : Int) < 0 := by omega
    obtain ⟨y, hy⟩ : ∃ y, L[k]? = some y := ⟨_, List.getElem?_eq_getElem (by rw [HS.out.own.ls.len]; exact hkn)⟩
    have HY := Lib.hid hy
    have HFd := Lib.hid hf
    obtain ⟨g, hA, _, hgl⟩ := HS.out.own.ls.row.form (by omega)
    subst hA
    have HG := Lib.hid hgl
    clear hf hy hgl
    replace HI : Hid (Calls Tryz.prog 99 #[.slice (some ⟨g, 0, none⟩) n c, .func (.func 100) #[] #[.pointer (some ⟨w.heap.size, 0, none⟩)]] u fun e w' => e = .returned (.int .i64 (k : Int)) ∧ Below u.heap.size u w') := HI
    go_wp2_with fail
    refine HI.out.mono ?_
    rintro e v ⟨rfl, hbv⟩
    have HV := Lib.hid (show Below base w v from HB.out.trans (hbv.mono (Nat.le_trans hbw HB.out.size)))
    have HSv := Lib.hid (HS.out.below hbv)
    have x0 := (HX.out.below hbv).at_ 0 rfl
    have xd2 : v.drew.cell? ⟨w.heap.size, 2, none⟩ = some (.int .i64 nn) := (HX.out.below hbv).at_ 2 rfl
    clear hbv v2 HS HI
    have v2 := HSv.out.box.at_ 2 rfl
    have vd2 : v.drew.cell? ⟨vb, 2, none⟩ = some (.slice (some ⟨g, 0, none⟩) n c) := HSv.out.box.at_ 2 rfl
    have hkx : (L.map (·.1))[k]? = some y.1 := by rw [List.getElem?_map, HY.out]; rfl
    have se0 : v.cell? ⟨g, k * 4 + 3, none⟩ = some (.int .i64 y.1.se) := HSv.out.own.ls.row.cellAt (Pk.flatMap_at (f := Ed.Lg.cells) (s := 4) (fun _ => rfl) (j := 3) hkx rfl)
    have sed : v.drew.cell? ⟨g, k * 4 + 3, none⟩ = some (.int .i64 y.1.se) := se0
    have sef : v.drew.frozen? ⟨g, k * 4 + 3, none⟩ = false := HSv.out.own.ls.row.freeAt _
    have HQ := Lib.hid (show StV (v.drew.setCell ⟨g, k * 4 + 3, none⟩ (.int .i64 nn)) base vb nx sq (some ⟨g, 0, none⟩) n c (L.set k ({ y.1 with se := nn }, y.2)) B m d M from (show StV v.drew base vb nx sq (some ⟨g, 0, none⟩) n c L B m d M from HSv.out.below ((Below.refl _ _).drew)).seal_ HY.out hnn)
    have hgb : base ≤ g := (HSv.out.own.ls.row.lt g rfl).1
    have HBq := Lib.hid (show Below base w (v.drew.setCell ⟨g, k * 4 + 3, none⟩ (.int .i64 nn)) from HV.out.drew.setCell hgb _)
    have hrd : r = if y.1.se = -1 then some { (⟨nx, sq, L.map Ed.loOf, M.map Ed.taOf⟩ : Ed.Ve) with ls := (L.map Ed.loOf).set k ⟨⟨y.1.id, y.1.ep, y.2⟩, nn⟩ } else none := by
      rw [HR.out]
      show (match Ed.find ((L.map Ed.loOf).map (·.p.id)) id with | none => none | some k => match (L.map Ed.loOf)[k]? with | none => none | some l => if l.se = -1 then some { (⟨nx, sq, L.map Ed.loOf, M.map Ed.taOf⟩ : Ed.Ve) with ls := (L.map Ed.loOf).set k ⟨l.p, nn⟩ } else none) = _
      rw [Ed.lids, HFd.out]
      show (match (L.map Ed.loOf)[k]? with | none => none | some l => if l.se = -1 then some { (⟨nx, sq, L.map Ed.loOf, M.map Ed.taOf⟩ : Ed.Ve) with ls := (L.map Ed.loOf).set k ⟨l.p, nn⟩ } else none) = _
      rw [Ed.map_at (f := Ed.loOf) HY.out]
      rfl
    have HRD := Lib.hid hrd
    clear hrd hkx hgb
    by_cases hse : y.1.se = -1
    · have HF := Lib.hid (show r = some { (⟨nx, sq, L.map Ed.loOf, M.map Ed.taOf⟩ : Ed.Ve) with ls := (L.map Ed.loOf).set k ⟨⟨y.1.id, y.1.ep, y.2⟩, nn⟩ } by rw [HRD.out, if_pos hse])
      have g0 : (y.1.se == -1) = true := by simp [hse]
      generalize y.1.se = yse at se0 sed g0
      clear hse
      go_wp2_with fail
      go_region
      all_goals
        go_wp2
        go_ret
        rw [HF.out]
        exact ⟨HBq.out, rfl, _, _, _, _, _, _, _, _, HQ.out, by rw [List.map_set]; rfl, rfl⟩
    · have HF := Lib.hid (show r = none by rw [HRD.out, if_neg hse])
      have g0 : (y.1.se == -1) = false := beq_eq_false_iff_ne.2 hse
      generalize y.1.se = yse at se0 sed g0
      clear hse
      go_wp2_with fail
      go_region
      all_goals
        go_wp2
        go_ret
        rw [HF.out]
        exact ⟨HBq.out, rfl⟩
set_option maxRecDepth 100000 in
set_option maxHeartbeats 8000000 in
theorem do4_any {w : World} {base vb : Nat} {nx sq : Int} {A : Option Addr} {n c : Nat} {L : List (Ed.Lg × List (Int × Int))} {B : Option Addr} {m d : Nat} {M : List (Pk.Tb × List (Int × Int))} (hst : StV w base vb nx sq A n c L B m d M) (hbw : base ≤ w.heap.size) (id nn pid pep : Int) (P : Option Addr) (pn pc : Nat) (ps : List (Int × Int)) (tid tep : Int) (Q : Option Addr) (qn qc : Nat) (sz lv ct : Int) (lo hi : ByteArray) (tp : Int) (qs : List (Int × Int)) (hn : n ≤ 100000) (hnn : -9223372036854775808 ≤ nn ∧ nn ≤ 9223372036854775807) :
    Calls Tryz.prog 48 #[.pointer (some ⟨vb, 0, none⟩), .agg #[.int .i64 4, .int .i64 id, .int .i64 nn, .int .i64 pid, .int .i64 pep, .slice P pn pc, .int .i64 tid, .int .i64 tep, .slice Q qn qc, .int .i64 sz, .int .i64 lv, .int .i64 ct, .string lo, .string hi, .int .i64 tp]] w (GivesDo w base vb (Ed.do1 (⟨nx, sq, L.map Ed.loOf, M.map Ed.taOf⟩ : Ed.Ve) (⟨4, id, nn, ⟨pid, pep, ps⟩, ⟨⟨tid, tep, qs⟩, sz, lv, ct, lo, hi, tp⟩⟩ : Ed.Et))) := by
  have hal : Below w.heap.size w (w.alloc (.cells #[.int .i64 4, .int .i64 id, .int .i64 nn, .int .i64 pid, .int .i64 pep, .slice P pn pc, .int .i64 tid, .int .i64 tep, .slice Q qn qc, .int .i64 sz, .int .i64 lv, .int .i64 ct, .string lo, .string hi, .int .i64 tp] 37)) := (Below.refl _ _).alloc (Nat.le_refl _) _
  have HX := Lib.hid (Holds.new w #[.int .i64 4, .int .i64 id, .int .i64 nn, .int .i64 pid, .int .i64 pep, .slice P pn pc, .int .i64 tid, .int .i64 tep, .slice Q qn qc, .int .i64 sz, .int .i64 lv, .int .i64 ct, .string lo, .string hi, .int .i64 tp] 37)
  have HS := Lib.hid (hst.below hal)
  have HB := Lib.hid (show Below base w (w.alloc (.cells #[.int .i64 4, .int .i64 id, .int .i64 nn, .int .i64 pid, .int .i64 pep, .slice P pn pc, .int .i64 tid, .int .i64 tep, .slice Q qn qc, .int .i64 sz, .int .i64 lv, .int .i64 ct, .string lo, .string hi, .int .i64 tp] 37)) from hal.mono hbw)
  have hbu : base ≤ (w.alloc (.cells #[.int .i64 4, .int .i64 id, .int .i64 nn, .int .i64 pid, .int .i64 pep, .slice P pn pc, .int .i64 tid, .int .i64 tep, .slice Q qn qc, .int .i64 sz, .int .i64 lv, .int .i64 ct, .string lo, .string hi, .int .i64 tp] 37)).heap.size := Nat.le_trans hbw hal.size
  clear hal hst
  have HC := Lib.hid (tolog4_any HS.out hbu id nn pid pep P pn pc ps tid tep Q qn qc sz lv ct lo hi tp qs hn hnn)
  obtain ⟨r, hr⟩ : ∃ r, r = Ed.do1 (⟨nx, sq, L.map Ed.loOf, M.map Ed.taOf⟩ : Ed.Ve) (⟨4, id, nn, ⟨pid, pep, ps⟩, ⟨⟨tid, tep, qs⟩, sz, lv, ct, lo, hi, tp⟩⟩ : Ed.Et) := ⟨_, rfl⟩
  rw [← hr] at HC ⊢
  clear hr
  go_enter Tryz.func48, Tryz.ntmps48
  go_upto_region 1 with fail
  generalize (w.alloc (.cells #[.int .i64 4, .int .i64 id, .int .i64 nn, .int .i64 pid, .int .i64 pep, .slice P pn pc, .int .i64 tid, .int .i64 tep, .slice Q qn qc, .int .i64 sz, .int .i64 lv, .int .i64 ct, .string lo, .string hi, .int .i64 tp] 37)) = u at *
  replace HX : Hid (Holds u w.heap.size [.int .i64 4, .int .i64 id, .int .i64 nn, .int .i64 pid, .int .i64 pep, .slice P pn pc, .int .i64 tid, .int .i64 tep, .slice Q qn qc, .int .i64 sz, .int .i64 lv, .int .i64 ct, .string lo, .string hi, .int .i64 tp]) := HX
  obtain ⟨x0, x1, x2, x3, x4, x5, x6, x7, x8, x9, x10, x11, x12, x13, x14⟩ := HX.out.all15
  go_wp2_with fail
  refine HC.out.mono ?_
  rintro e v hg
  cases r with
  | none =>
    obtain ⟨hb, rfl⟩ := hg
    have HF := Lib.hid (show Below base w v from HB.out.trans hb)
    go_wp2
    go_ret
    exact ⟨HF.out, rfl⟩
  | some r =>
    obtain ⟨hb, rfl, hrest⟩ := hg
    have HF := Lib.hid (And.intro (show Below base w v from HB.out.trans hb) hrest)
    clear hb hrest
    go_wp2
    go_ret
    exact ⟨HF.out.1, rfl, HF.out.2⟩
end Go.Proofs.YthfcjlndaajkfaaGreat
namespace Go.Proofs.YthfcjlndaajkfaaGreat
open Go.RowKit
set_option linter.unusedVariables false
set_option maxRecDepth 100000 in
set_option maxHeartbeats 8000000 in
theorem tolog5_any {w : World} {base vb : Nat} {nx sq : Int} {A : Option Addr} {n c : Nat} {L : List (Ed.Lg × List (Int × Int))} {B : Option Addr} {m d : Nat} {M : List (Pk.Tb × List (Int × Int))} (hst : StV w base vb nx sq A n c L B m d M) (hbw : base ≤ w.heap.size) (id nn pid pep : Int) (P : Option Addr) (pn pc : Nat) (ps : List (Int × Int)) (tid tep : Int) (Q : Option Addr) (qn qc : Nat) (sz lv ct : Int) (lo hi : ByteArray) (tp : Int) (qs : List (Int × Int)) (hn : n ≤ 100000) (hnn : -9223372036854775808 ≤ nn ∧ nn ≤ 9223372036854775807) :
    Calls Tryz.prog 77 #[.pointer (some ⟨vb, 0, none⟩), .agg #[.int .i64 5, .int .i64 id, .int .i64 nn, .int .i64 pid, .int .i64 pep, .slice P pn pc, .int .i64 tid, .int .i64 tep, .slice Q qn qc, .int .i64 sz, .int .i64 lv, .int .i64 ct, .string lo, .string hi, .int .i64 tp]] w (GivesDo w base vb (Ed.do1 (⟨nx, sq, L.map Ed.loOf, M.map Ed.taOf⟩ : Ed.Ve) (⟨5, id, nn, ⟨pid, pep, ps⟩, ⟨⟨tid, tep, qs⟩, sz, lv, ct, lo, hi, tp⟩⟩ : Ed.Et))) := by
  have hal : Below w.heap.size w (w.alloc (.cells #[.int .i64 5, .int .i64 id, .int .i64 nn, .int .i64 pid, .int .i64 pep, .slice P pn pc, .int .i64 tid, .int .i64 tep, .slice Q qn qc, .int .i64 sz, .int .i64 lv, .int .i64 ct, .string lo, .string hi, .int .i64 tp] 37)) := (Below.refl _ _).alloc (Nat.le_refl _) _
  have hvb := hst.box.1
  have HX := Lib.hid (Holds.new w #[.int .i64 5, .int .i64 id, .int .i64 nn, .int .i64 pid, .int .i64 pep, .slice P pn pc, .int .i64 tid, .int .i64 tep, .slice Q qn qc, .int .i64 sz, .int .i64 lv, .int .i64 ct, .string lo, .string hi, .int .i64 tp] 37)
  have HS := Lib.hid (hst.below hal)
  have HB := Lib.hid (show Below base w (w.alloc (.cells #[.int .i64 5, .int .i64 id, .int .i64 nn, .int .i64 pid, .int .i64 pep, .slice P pn pc, .int .i64 tid, .int .i64 tep, .slice Q qn qc, .int .i64 sz, .int .i64 lv, .int .i64 ct, .string lo, .string hi, .int .i64 tp] 37)) from hal.mono hbw)
  have hlo := hst.lo
  clear hal
  obtain ⟨r, hr⟩ : ∃ r, r = Ed.do1 (⟨nx, sq, L.map Ed.loOf, M.map Ed.taOf⟩ : Ed.Ve) (⟨5, id, nn, ⟨pid, pep, ps⟩, ⟨⟨tid, tep, qs⟩, sz, lv, ct, lo, hi, tp⟩⟩ : Ed.Et) := ⟨_, rfl⟩
  rw [← hr]
  have HR := Lib.hid hr
  clear hr
  go_enter Tryz.func77, Tryz.ntmps77
  go_upto_region 1 with fail
  generalize (w.alloc (.cells #[.int .i64 5, .int .i64 id, .int .i64 nn, .int .i64 pid, .int .i64 pep, .slice P pn pc, .int .i64 tid, .int .i64 tep, .slice Q qn qc, .int .i64 sz, .int .i64 lv, .int .i64 ct, .string lo, .string hi, .int .i64 tp] 37)) = u at *
  replace HX : Hid (Holds u w.heap.size [.int .i64 5, .int .i64 id, .int .i64 nn, .int .i64 pid, .int .i64 pep, .slice P pn pc, .int .i64 tid, .int .i64 tep, .slice Q qn qc, .int .i64 sz, .int .i64 lv, .int .i64 ct, .string lo, .string hi, .int .i64 tp]) := HX
  have v2 := HS.out.box.at_ 2 rfl
  have HI := Lib.hid (ixlog_any A n c L w.heap.size id u HS.out.own.ls.rd (by omega) (HX.out.at_ 1 rfl))
  have HLen := Lib.hid (show (L.map (·.1.id)).length = n by rw [List.length_map]; exact HS.out.own.ls.len)
  cases hf : Ed.find (L.map (·.1.id)) id with
  | none =>
    rw [hf] at HI
    have HF := Lib.hid (show r = none by rw [HR.out]; show (match Ed.find ((L.map Ed.loOf).map (·.p.id)) id with | none => none | some k => _) = none; rw [Ed.lids, hf])
    clear hf
    replace HI : Hid (Calls Tryz.prog 99 #[.slice A n c, .func (.func 100) #[] #[.pointer (some ⟨w.heap.size, 0, none⟩)]] u fun e w' => e = .returned (.int .i64 (-1)) ∧ Below u.heap.size u w') := HI
    go_wp2_with fail
    refine HI.out.mono ?_
    rintro e v ⟨rfl, hbv⟩
    have HV := Lib.hid (show Below base w v from HB.out.trans (hbv.mono (Nat.le_trans hbw HB.out.size)))
    clear hbv v2
    go_wp2
    go_ret
    rw [HF.out]
    exact ⟨HV.out, rfl⟩
  | some k =>
    rw [hf] at HI
    have hkn : k < n := by have := Ed.find_lt hf; have := HLen.out; omega
    have hki : (k : Int) < (n : Int) := by omega
    have hk0 : ¬ (k : Int) < 0 := by omega
    obtain ⟨y, hy⟩ : ∃ y, L[k]? = some y := ⟨_, List.getElem?_eq_getElem (by rw [HS.out.own.ls.len]; exact hkn)⟩
    have HY := Lib.hid hy
    have HFd := Lib.hid hf
    obtain ⟨g, hA, _, hgl⟩ := HS.out.own.ls.row.form (by omega)
    subst hA
    have HG := Lib.hid hgl
    clear hf hy hgl
    replace HI : Hid (Calls Tryz.prog 99 #[.slice (some ⟨g, 0, none⟩) n c, .func (.func 100) #[] #[.pointer (some ⟨w.heap.size, 0, none⟩)]] u fun e w' => e = .returned (.int .i64 (k : Int)) ∧ Below u.heap.size u w') := HI
    go_wp2_with fail
    refine HI.out.mono ?_
    rintro e v ⟨rfl, hbv⟩
    have HV := Lib.hid (show Below base w v from HB.out.trans (hbv.mono (Nat.le_trans hbw HB.out.size)))
    have HSv := Lib.hid (HS.out.below hbv)
    have x0 := (HX.out.below hbv).at_ 0 rfl
    have xd2 : v.drew.cell? ⟨w.heap.size, 2, none⟩ = some (.int .i64 nn) := (HX.out.below hbv).at_ 2 rfl
    clear hbv v2 HS HI
    have v2 := HSv.out.box.at_ 2 rfl
    have vd2 : v.drew.cell? ⟨vb, 2, none⟩ = some (.slice (some ⟨g, 0, none⟩) n c) := HSv.out.box.at_ 2 rfl
    have hlen : n = (L.map (·.1)).length := by rw [List.length_map]; exact HSv.out.own.ls.len.symm
    have HF := Lib.hid (show r = some { (⟨nx, sq, L.map Ed.loOf, M.map Ed.taOf⟩ : Ed.Ve) with ls := Ed.cut (L.map Ed.loOf) k } by rw [HR.out]; show (match Ed.find ((L.map Ed.loOf).map (·.p.id)) id with | none => none | some k => some { (⟨nx, sq, L.map Ed.loOf, M.map Ed.taOf⟩ : Ed.Ve) with ls := Ed.cut (L.map Ed.loOf) k }) = _; rw [Ed.lids, HFd.out])
    have HD := Lib.hid (show Calls Tryz.prog 101 #[.slice (some ⟨g, 0, none⟩) n c, .int .i64 (k : Int), .int .i64 ((k : Int) + 1)] v fun e w' => e = .returned (.slice (some ⟨g, 0, none⟩) (n - 1) c) ∧ OwnC 4 w' base 62 (some ⟨g, 0, none⟩) (n - 1) c (Ed.lflat (Ed.cut (L.map (·.1)) k)) ∧ v.grownBy w' (some g) by
      have h0 := HSv.out.own.ls.row
      rw [hlen] at h0 ⊢
      exact dellog_any base g c k (L.map (·.1)) v h0 (by rw [← hlen]; exact hkn) (by omega))
    clear hlen xd2 vd2
    go_wp2_with fail
    refine HD.out.mono ?_
    rintro e q ⟨rfl, hO, hG⟩
    have HQ := Lib.hid (HSv.out.cutlog rfl hkn hO hG)
    have hgb : base ≤ g := (HSv.out.own.ls.row.lt g rfl).1
    have HBq := Lib.hid (show Below base w (q.setCell ⟨vb, 2, none⟩ (.slice (some ⟨g, 0, none⟩) (n - 1) c)) from (HV.out.grown hG (Nat.le_trans hbw HV.out.size) (fun g' e => by injection e with e; omega)).setCell hlo _)
    have q2 := (HSv.out.box.grown hG (fun e => by injection e with e; exact HSv.out.va (by rw [← e]; rfl))).at_ 2 rfl
    have qf := (HSv.out.box.grown hG (fun e => by injection e with e; exact HSv.out.va (by rw [← e]; rfl))).2.2 2
    clear hO hG v2 x0
    go_wp2
    go_ret
    rw [HF.out]
    exact ⟨HBq.out, rfl, _, _, _, _, _, _, _, _, HQ.out, Ed.map_cut _ _ _, rfl⟩
set_option maxRecDepth 100000 in
set_option maxHeartbeats 8000000 in
theorem do5_any {w : World} {base vb : Nat} {nx sq : Int} {A : Option Addr} {n c : Nat} {L : List (Ed.Lg × List (Int × Int))} {B : Option Addr} {m d : Nat} {M : List (Pk.Tb × List (Int × Int))} (hst : StV w base vb nx sq A n c L B m d M) (hbw : base ≤ w.heap.size) (id nn pid pep : Int) (P : Option Addr) (pn pc : Nat) (ps : List (Int × Int)) (tid tep : Int) (Q : Option Addr) (qn qc : Nat) (sz lv ct : Int) (lo hi : ByteArray) (tp : Int) (qs : List (Int × Int)) (hn : n ≤ 100000) (hnn : -9223372036854775808 ≤ nn ∧ nn ≤ 9223372036854775807) :
    Calls Tryz.prog 48 #[.pointer (some ⟨vb, 0, none⟩), .agg #[.int .i64 5, .int .i64 id, .int .i64 nn, .int .i64 pid, .int .i64 pep, .slice P pn pc, .int .i64 tid, .int .i64 tep, .slice Q qn qc, .int .i64 sz, .int .i64 lv, .int .i64 ct, .string lo, .string hi, .int .i64 tp]] w (GivesDo w base vb (Ed.do1 (⟨nx, sq, L.map Ed.loOf, M.map Ed.taOf⟩ : Ed.Ve) (⟨5, id, nn, ⟨pid, pep, ps⟩, ⟨⟨tid, tep, qs⟩, sz, lv, ct, lo, hi, tp⟩⟩ : Ed.Et))) := by
  have hal : Below w.heap.size w (w.alloc (.cells #[.int .i64 5, .int .i64 id, .int .i64 nn, .int .i64 pid, .int .i64 pep, .slice P pn pc, .int .i64 tid, .int .i64 tep, .slice Q qn qc, .int .i64 sz, .int .i64 lv, .int .i64 ct, .string lo, .string hi, .int .i64 tp] 37)) := (Below.refl _ _).alloc (Nat.le_refl _) _
  have HX := Lib.hid (Holds.new w #[.int .i64 5, .int .i64 id, .int .i64 nn, .int .i64 pid, .int .i64 pep, .slice P pn pc, .int .i64 tid, .int .i64 tep, .slice Q qn qc, .int .i64 sz, .int .i64 lv, .int .i64 ct, .string lo, .string hi, .int .i64 tp] 37)
  have HS := Lib.hid (hst.below hal)
  have HB := Lib.hid (show Below base w (w.alloc (.cells #[.int .i64 5, .int .i64 id, .int .i64 nn, .int .i64 pid, .int .i64 pep, .slice P pn pc, .int .i64 tid, .int .i64 tep, .slice Q qn qc, .int .i64 sz, .int .i64 lv, .int .i64 ct, .string lo, .string hi, .int .i64 tp] 37)) from hal.mono hbw)
  have hbu : base ≤ (w.alloc (.cells #[.int .i64 5, .int .i64 id, .int .i64 nn, .int .i64 pid, .int .i64 pep, .slice P pn pc, .int .i64 tid, .int .i64 tep, .slice Q qn qc, .int .i64 sz, .int .i64 lv, .int .i64 ct, .string lo, .string hi, .int .i64 tp] 37)).heap.size := Nat.le_trans hbw hal.size
  clear hal hst
  have HC := Lib.hid (tolog5_any HS.out hbu id nn pid pep P pn pc ps tid tep Q qn qc sz lv ct lo hi tp qs hn hnn)
  obtain ⟨r, hr⟩ : ∃ r, r = Ed.do1 (⟨nx, sq, L.map Ed.loOf, M.map Ed.taOf⟩ : Ed.Ve) (⟨5, id, nn, ⟨pid, pep, ps⟩, ⟨⟨tid, tep, qs⟩, sz, lv, ct, lo, hi, tp⟩⟩ : Ed.Et) := ⟨_, rfl⟩
  rw [← hr] at HC ⊢
  clear hr
  go_enter Tryz.func48, Tryz.ntmps48
  go_upto_region 1 with fail
  generalize (w.alloc (.cells #[.int .i64 5, .int .i64 id, .int .i64 nn, .int .i64 pid, .int .i64 pep, .slice P pn pc, .int .i64 tid, .int .i64 tep, .slice Q qn qc, .int .i64 sz, .int .i64 lv, .int .i64 ct, .string lo, .string hi, .int .i64 tp] 37)) = u at *
  replace HX : Hid (Holds u w.heap.size [.int .i64 5, .int .i64 id, .int .i64 nn, .int .i64 pid, .int .i64 pep, .slice P pn pc, .int .i64 tid, .int .i64 tep, .slice Q qn qc, .int .i64 sz, .int .i64 lv, .int .i64 ct, .string lo, .string hi, .int .i64 tp]) := HX
  obtain ⟨x0, x1, x2, x3, x4, x5, x6, x7, x8, x9, x10, x11, x12, x13, x14⟩ := HX.out.all15
  go_wp2_with fail
  refine HC.out.mono ?_
  rintro e v hg
  cases r with
  | none =>
    obtain ⟨hb, rfl⟩ := hg
    have HF := Lib.hid (show Below base w v from HB.out.trans hb)
    go_wp2
    go_ret
    exact ⟨HF.out, rfl⟩
  | some r =>
    obtain ⟨hb, rfl, hrest⟩ := hg
    have HF := Lib.hid (And.intro (show Below base w v from HB.out.trans hb) hrest)
    clear hb hrest
    go_wp2
    go_ret
    exact ⟨HF.out.1, rfl, HF.out.2⟩
end Go.Proofs.YthfcjlndaajkfaaGreat
namespace Go.Proofs.YthfcjlndaajkfaaGreat
open Go.RowKit
set_option linter.unusedVariables false
set_option maxRecDepth 100000 in
set_option maxHeartbeats 16000000 in
theorem do6_any {w : World} {base vb : Nat} {nx sq : Int} {A : Option Addr} {n c : Nat} {L : List (Ed.Lg × List (Int × Int))} {B : Option Addr} {m d : Nat} {M : List (Pk.Tb × List (Int × Int))} (hst : StV w base vb nx sq A n c L B m d M) (hbw : base ≤ w.heap.size) (id nn pid pep : Int) (P : Option Addr) (pn pc : Nat) (ps : List (Int × Int)) (tid tep : Int) (Q : Option Addr) (qn qc : Nat) (sz lv ct : Int) (lo hi : ByteArray) (tp : Int) (qs : List (Int × Int)) (hm : m ≤ 50000) (hP : PairsOk w Q qn qc qs) (hpn : qn ≤ 100000) (hpid : 1 ≤ tid ∧ tid ≤ 2147483647) (hfit : (⟨tid, tep, Q, qn, qc, sz, lv, ct, lo, hi, tp⟩ : Pk.Tb).fits) (hs : (M.map (·.1.id)).Pairwise (· < ·)) (hb : ∀ y ∈ M.map (·.1.id), 0 ≤ y ∧ y ≤ 2147483647) :
    Calls Tryz.prog 48 #[.pointer (some ⟨vb, 0, none⟩), .agg #[.int .i64 6, .int .i64 id, .int .i64 nn, .int .i64 pid, .int .i64 pep, .slice P pn pc, .int .i64 tid, .int .i64 tep, .slice Q qn qc, .int .i64 sz, .int .i64 lv, .int .i64 ct, .string lo, .string hi, .int .i64 tp]] w (GivesDo w base vb (Ed.do1 (⟨nx, sq, L.map Ed.loOf, M.map Ed.taOf⟩ : Ed.Ve) (⟨6, id, nn, ⟨pid, pep, ps⟩, ⟨⟨tid, tep, qs⟩, sz, lv, ct, lo, hi, tp⟩⟩ : Ed.Et))) := by
  have hal : Below w.heap.size w (w.alloc (.cells #[.int .i64 6, .int .i64 id, .int .i64 nn, .int .i64 pid, .int .i64 pep, .slice P pn pc, .int .i64 tid, .int .i64 tep, .slice Q qn qc, .int .i64 sz, .int .i64 lv, .int .i64 ct, .string lo, .string hi, .int .i64 tp] 37)) := (Below.refl _ _).alloc (Nat.le_refl _) _
  have hvb := hst.box.1
  have HX := Lib.hid (Holds.new w #[.int .i64 6, .int .i64 id, .int .i64 nn, .int .i64 pid, .int .i64 pep, .slice P pn pc, .int .i64 tid, .int .i64 tep, .slice Q qn qc, .int .i64 sz, .int .i64 lv, .int .i64 ct, .string lo, .string hi, .int .i64 tp] 37)
  have HS := Lib.hid (hst.below hal)
  have HB := Lib.hid (show Below base w (w.alloc (.cells #[.int .i64 6, .int .i64 id, .int .i64 nn, .int .i64 pid, .int .i64 pep, .slice P pn pc, .int .i64 tid, .int .i64 tep, .slice Q qn qc, .int .i64 sz, .int .i64 lv, .int .i64 ct, .string lo, .string hi, .int .i64 tp] 37)) from hal.mono hbw)
  have HP := Lib.hid (hP.below hal)
  have HFit := Lib.hid hfit
  have hlo := hst.lo
  clear hal hP hfit
  obtain ⟨r, hr⟩ : ∃ r, r = Ed.do1 (⟨nx, sq, L.map Ed.loOf, M.map Ed.taOf⟩ : Ed.Ve) (⟨6, id, nn, ⟨pid, pep, ps⟩, ⟨⟨tid, tep, qs⟩, sz, lv, ct, lo, hi, tp⟩⟩ : Ed.Et) := ⟨_, rfl⟩
  rw [← hr]
  have hrd : r = match Ed.find (M.map (·.1.id)) tid with | some _ => none | none => some { (⟨nx, sq, L.map Ed.loOf, M.map Ed.taOf⟩ : Ed.Ve) with ts := Ed.put (M.map Ed.taOf) (Ed.pos (M.map (·.1.id)) tid) (⟨⟨tid, tep, qs⟩, sz, lv, ct, lo, hi, tp⟩ : Ed.Ta) } := by
    rw [hr]
    show (match Ed.find ((M.map Ed.taOf).map fun l : Ed.Ta => l.p.id) tid with | some _ => none | none => some { (⟨nx, sq, L.map Ed.loOf, M.map Ed.taOf⟩ : Ed.Ve) with ts := Ed.put (M.map Ed.taOf) (Ed.pos ((M.map Ed.taOf).map fun l : Ed.Ta => l.p.id) tid) (⟨⟨tid, tep, qs⟩, sz, lv, ct, lo, hi, tp⟩ : Ed.Ta) }) = _
    rw [Ed.tids]
  have HR := Lib.hid hrd
  clear hr hrd
  have hk := Ed.pos_le (M.map (·.1.id)) tid
  rw [List.length_map, HS.out.own.ts.len] at hk
  go_enter Tryz.func48, Tryz.ntmps48
  go_upto_region 1 with fail
  generalize (w.alloc (.cells #[.int .i64 6, .int .i64 id, .int .i64 nn, .int .i64 pid, .int .i64 pep, .slice P pn pc, .int .i64 tid, .int .i64 tep, .slice Q qn qc, .int .i64 sz, .int .i64 lv, .int .i64 ct, .string lo, .string hi, .int .i64 tp] 37)) = u at *
  replace HX : Hid (Holds u w.heap.size [.int .i64 6, .int .i64 id, .int .i64 nn, .int .i64 pid, .int .i64 pep, .slice P pn pc, .int .i64 tid, .int .i64 tep, .slice Q qn qc, .int .i64 sz, .int .i64 lv, .int .i64 ct, .string lo, .string hi, .int .i64 tp]) := HX
  have x0 := HX.out.at_ 0 rfl
  have x6 := HX.out.at_ 6 rfl
  have x7 := HX.out.at_ 7 rfl
  have x8 := HX.out.at_ 8 rfl
  have x9 := HX.out.at_ 9 rfl
  have x10 := HX.out.at_ 10 rfl
  have x11 := HX.out.at_ 11 rfl
  have x12 := HX.out.at_ 12 rfl
  have x13 := HX.out.at_ 13 rfl
  have x14 := HX.out.at_ 14 rfl
  go_upto_region 16 with fail
  clear x0 x6 x7 x8 x9 x10 x11 x12 x13 x14
  have haT : Below u.heap.size u (u.alloc (.cells #[.int .i64 tid, .int .i64 tep, .slice Q qn qc, .int .i64 sz, .int .i64 lv, .int .i64 ct, .string lo, .string hi, .int .i64 tp] 35)) := (Below.refl _ _).alloc (Nat.le_refl _) _
  have HT := Lib.hid (Holds.new u #[.int .i64 tid, .int .i64 tep, .slice Q qn qc, .int .i64 sz, .int .i64 lv, .int .i64 ct, .string lo, .string hi, .int .i64 tp] 35)
  have HS1 := Lib.hid (HS.out.below haT)
  have HB1 := Lib.hid (show Below base w (u.alloc (.cells #[.int .i64 tid, .int .i64 tep, .slice Q qn qc, .int .i64 sz, .int .i64 lv, .int .i64 ct, .string lo, .string hi, .int .i64 tp] 35)) from HB.out.trans (haT.mono (Nat.le_trans hbw HB.out.size)))
  have HP1 := Lib.hid (HP.out.below haT)
  have hvt : vb ≠ u.heap.size := by have := HS.out.box.1; omega
  have hut : base ≤ u.heap.size := Nat.le_trans hbw HB.out.size
  have HOf := Lib.hid (show (∀ g, blkOf A = some g → g ≠ u.heap.size) ∧ (∀ g, blkOf B = some g → g ≠ u.heap.size) ∧ (∀ x ∈ L, ∀ g, blkOf x.1.P = some g → g ≠ u.heap.size) ∧ (∀ x ∈ M, ∀ g, blkOf x.1.P = some g → g ≠ u.heap.size) from
    ⟨fun g hg => by have := (HS.out.own.ls.row.lt g hg).2; omega, fun g hg => by have := (HS.out.own.ts.row.lt g hg).2; omega, fun x hx g hg => by have := ((HS.out.own.ls.prs x hx).lt g hg).2; omega, fun x hx g hg => by have := ((HS.out.own.ts.prs x hx).lt g hg).2; omega⟩)
  clear haT HS HX HB HP
  generalize (u.alloc (.cells #[.int .i64 tid, .int .i64 tep, .slice Q qn qc, .int .i64 sz, .int .i64 lv, .int .i64 ct, .string lo, .string hi, .int .i64 tp] 35)) = u1 at *
  generalize u.heap.size = tb at *
  replace HT : Hid (Holds u1 tb [.int .i64 tid, .int .i64 tep, .slice Q qn qc, .int .i64 sz, .int .i64 lv, .int .i64 ct, .string lo, .string hi, .int .i64 tp]) := HT
  have t0 := HT.out.at_ 0 rfl
  have t1 := HT.out.at_ 1 rfl
  have t2 := HT.out.at_ 2 rfl
  have HOw := Lib.hid (ownplace_any tid tep Q qn qc qs u1 HP1.out.1 hpn)
  go_wp2_with fail
  refine HOw.out.mono ?_
  rintro e v ⟨P2, d2, rfl, hO, hbv⟩
  have HO := Lib.hid (show OwP v u1.heap.size P2 qn d2 qs from ⟨HP1.out.1.1, hO⟩)
  have HTv := Lib.hid (HT.out.below hbv)
  have HSv := Lib.hid (HS1.out.below hbv)
  have HBv := Lib.hid (show Below base w v from HB1.out.trans (hbv.mono (Nat.le_trans hbw HB1.out.size)))
  have htbu := HT.out.1
  have hsvb := HS1.out.box.1
  have hu1v := hbv.size
  have HAlt := Lib.hid (show (∀ g, blkOf A = some g → g < u1.heap.size) ∧ (∀ g, blkOf B = some g → g < u1.heap.size) from ⟨fun g hg => (HS1.out.own.ls.row.lt g hg).2, fun g hg => (HS1.out.own.ts.row.lt g hg).2⟩)
  clear hO hbv t0 t1 t2 HOw HT HS1 HB1 HP1
  have t0 := HTv.out.at_ 0 rfl
  have t1 := HTv.out.at_ 1 rfl
  have t2 := HTv.out.at_ 2 rfl
  have tf0 := HTv.out.2.2 0
  have tf1 := HTv.out.2.2 1
  have tf2 := HTv.out.2.2 2
  have hG : v.grownBy (((v.setCell ⟨tb, 0, none⟩ (.int .i64 tid)).setCell ⟨tb, 1, none⟩ (.int .i64 tep)).setCell ⟨tb, 2, none⟩ (.slice P2 qn d2)) (some tb) := (grown_cell _ _ _ _).trans ((grown_cell _ _ _ _).trans (grown_cell _ _ _ _))
  have HTw := Lib.hid (show Holds (((v.setCell ⟨tb, 0, none⟩ (.int .i64 tid)).setCell ⟨tb, 1, none⟩ (.int .i64 tep)).setCell ⟨tb, 2, none⟩ (.slice P2 qn d2)) tb [.int .i64 tid, .int .i64 tep, .slice P2 qn d2, .int .i64 sz, .int .i64 lv, .int .i64 ct, .string lo, .string hi, .int .i64 tp] from ((HTv.out.set 0 (.int .i64 tid) (by simp)).set 1 (.int .i64 tep) (by simp)).set 2 (.slice P2 qn d2) (by simp))
  have HSw := Lib.hid (show StV (((v.setCell ⟨tb, 0, none⟩ (.int .i64 tid)).setCell ⟨tb, 1, none⟩ (.int .i64 tep)).setCell ⟨tb, 2, none⟩ (.slice P2 qn d2)) base vb nx sq A n c L B m d M from
    ⟨HSv.out.box.grown hG (fun e => by injection e with e; exact hvt e.symm), ⟨HSv.out.own.ls.grown hG (fun g e1 e2 => by injection e1 with e1; exact HOf.out.1 g e2 e1.symm) (fun x hx g e1 e2 => by injection e1 with e1; exact HOf.out.2.2.1 x hx g e2 e1.symm), HSv.out.own.ts.grown hG (fun g e1 e2 => by injection e1 with e1; exact HOf.out.2.1 g e2 e1.symm) (fun x hx g e1 e2 => by injection e1 with e1; exact HOf.out.2.2.2 x hx g e2 e1.symm), HSv.out.own.ab, HSv.out.own.lb, HSv.out.own.ta⟩, HSv.out.va, HSv.out.vB, HSv.out.vl, HSv.out.vt, HSv.out.lo⟩)
  have HOw2 := Lib.hid (HO.out.grown hG (fun g e1 e2 => by injection e1 with e1; have := (HO.out.lt g e2).1; omega))
  have HBw := Lib.hid (show Below base w (((v.setCell ⟨tb, 0, none⟩ (.int .i64 tid)).setCell ⟨tb, 1, none⟩ (.int .i64 tep)).setCell ⟨tb, 2, none⟩ (.slice P2 qn d2)) from HBv.out.grown hG (Nat.le_trans hbw HBv.out.size) (fun g e => by injection e with e; omega))
  clear hG
  go_upto_region 17 with fail
  clear t0 t1 t2 tf0 tf1 tf2 HTv HSv HBv HO
  generalize (((v.setCell ⟨tb, 0, none⟩ (.int .i64 tid)).setCell ⟨tb, 1, none⟩ (.int .i64 tep)).setCell ⟨tb, 2, none⟩ (.slice P2 qn d2)) = q at *
  have HCl := Lib.hid (fun (W : World) (hW : Below q.heap.size q W) => And.intro ((HSw.out.below hW).box.at_ 3 rfl) ((HTw.out.below hW).at_ 0 rfl))
  have HBin := Lib.hid (fun (W : World) (hW : Below q.heap.size q W) => bintable_any B m d M tid W (HSw.out.own.below hW).ts.rd (by omega) hs hb ⟨by omega, hpid.2⟩)
  clear hs hb
  generalize hkk : Ed.pos (M.map (·.1.id)) tid = k at *
  generalize hfs : (Ed.find (M.map (·.1.id)) tid).isSome = fs at *
  have HFS := Lib.hid hfs
  clear hfs hkk
  refine region_class (fun W => Below q.heap.size q W) (by kernel_rfl) (by kernel_rfl) ((Below.refl _ _).drew) ?_
  repeat (go_big_quiet_step ((first | (intro _; with_reducible rfl) | (intro hq; exact calls_class hq (HBin.out _ hq)) | (intro hq; obtain ⟨e0, e1⟩ := HCl.out _ hq; simp [e0, e1, Result.andThen]; with_reducible rfl))))
  refine wpQuiet_nil ?_
  intro z hz
  have HSz := Lib.hid (HSw.out.below hz)
  have HTz := Lib.hid (HTw.out.below hz)
  have HOz := Lib.hid (HOw2.out.below hz)
  have HBz := Lib.hid (show Below base w z from HBw.out.trans (hz.mono (Nat.le_trans hbw HBw.out.size)))
  clear hz HBin HCl HSw HTw HOw2 HBw
  have hbd : Below z.heap.size z z.drew := (Below.refl _ _).drew
  have b3 := (HSz.out.box.below hbd).at_ 3 rfl
  obtain ⟨t0, t1, t2, t3, t4, t5, t6, t7, t8⟩ := ((HTz.out.below hbd)).all9
  have HSd := Lib.hid (HSz.out.below hbd)
  have HOd := Lib.hid (HOz.out.below hbd)
  have HBd := Lib.hid HBz.out.drew
  clear hbd
  have hal : Below z.drew.heap.size z.drew (z.drew.alloc (.cells #[.int .i64 tid, .int .i64 tep, .slice P2 qn d2, .int .i64 sz, .int .i64 lv, .int .i64 ct, .string lo, .string hi, .int .i64 tp] 35)) := (Below.refl _ _).alloc (Nat.le_refl _) _
  have b3a := (HSd.out.box.below hal).at_ 3 rfl
  have b3b : (z.alloc (.cells #[.int .i64 tid, .int .i64 tep, .slice P2 qn d2, .int .i64 sz, .int .i64 lv, .int .i64 ct, .string lo, .string hi, .int .i64 tp] 35)).cell? ⟨vb, 3, none⟩ = some (.slice B m d) := b3a
  have HSa := Lib.hid (HSd.out.below hal)
  have HOa := Lib.hid (HOd.out.below hal)
  have HBa := Lib.hid (show Below base w (z.drew.alloc (.cells #[.int .i64 tid, .int .i64 tep, .slice P2 qn d2, .int .i64 sz, .int .i64 lv, .int .i64 ct, .string lo, .string hi, .int .i64 tp] 35)) from HBd.out.trans (hal.mono (Nat.le_trans hbw HBd.out.size)))
  have HIns := Lib.hid (show Calls Tryz.prog 73 #[.slice B m d, .int .i64 (k : Int), .slice (some ⟨z.heap.size, 0, none⟩) 1 1] (z.drew.alloc (.cells #[.int .i64 tid, .int .i64 tep, .slice P2 qn d2, .int .i64 sz, .int .i64 lv, .int .i64 ct, .string lo, .string hi, .int .i64 tp] 35)) (GivesIns 9 35 (z.drew.alloc (.cells #[.int .i64 tid, .int .i64 tep, .slice P2 qn d2, .int .i64 sz, .int .i64 lv, .int .i64 ct, .string lo, .string hi, .int .i64 tp] 35)) base B m ((Pk.flat (M.map (·.1))).take (k * 9) ++ [.int .i64 tid, .int .i64 tep, .slice P2 qn d2, .int .i64 sz, .int .i64 lv, .int .i64 ct, .string lo, .string hi, .int .i64 tp] ++ (Pk.flat (M.map (·.1))).drop (k * 9))) from instable_st HSd.out (Nat.le_trans hbw HBd.out.size) (⟨tid, tep, P2, qn, d2, sz, lv, ct, lo, hi, tp⟩ : Pk.Tb) k hk hm)
  clear hal
  go_wp2_with fail
  go_region_law (refine step_call3 (by simp [Region.wanted]) 101 rfl (.tmp 97) (.tmp 98) (.tmp 100) rfl rfl rfl rfl enter_inst (HIns.out.mono ?_); rintro e v4 ⟨A4, c4, rfl, hO4, hG4, hb4⟩; have HI4 := Lib.hid (And.intro hO4 (And.intro hG4 hb4)); have q2 := (HSa.out.box.grown hG4 (fun e => HSa.out.vB e)).at_ 3 rfl; have qf := (HSa.out.box.grown hG4 (fun e => HSa.out.vB e)).2.2 3; clear hO4 hG4 hb4; refine ⟨_, rfl, ?_⟩)
  all_goals
    have HQ := Lib.hid (HSa.out.puttable (x := ((⟨tid, tep, P2, qn, d2, sz, lv, ct, lo, hi, tp⟩ : Pk.Tb), qs)) hk HI4.out.1 HI4.out.2.1 HI4.out.2.2 (HOa.out.base_ (Nat.le_trans hut (by omega)))
      (fun g h1 h2 => by have := (HOa.out.lt g h1).1; have := HAlt.out.1 g h2; omega) (fun g h1 h2 => by have := (HOa.out.lt g h1).1; have := HAlt.out.2 g h2; omega)
      (fun e => by have := (HOa.out.lt vb e).1; omega) HFit.out)
    have HBq := Lib.hid (show Below base w (v4.setCell ⟨vb, 3, none⟩ (.slice A4 (m + 1) c4)) from (HBa.out.grown HI4.out.2.1 (Nat.le_trans hbw HBa.out.size) (fun g e => (HSa.out.own.ts.row.lt g e).1)).setCell hlo _)
    go_wp2
    go_ret
    cases fs with
    | true =>
      have h := HR.out
      obtain ⟨y, hy⟩ := Option.isSome_iff_exists.1 HFS.out
      rw [hy] at h
      have h : r = none := h
      rw [h]
      exact ⟨HBq.out, rfl⟩
    | false =>
      have h := HR.out
      have hy : Ed.find (M.map (·.1.id)) tid = none := by cases e : Ed.find (M.map (·.1.id)) tid with
        | none => rfl
        | some _ => have := HFS.out; rw [e] at this; cases this
      rw [hy] at h
      have h : r = some { (⟨nx, sq, L.map Ed.loOf, M.map Ed.taOf⟩ : Ed.Ve) with ts := Ed.put (M.map Ed.taOf) k (⟨⟨tid, tep, qs⟩, sz, lv, ct, lo, hi, tp⟩ : Ed.Ta) } := h
      rw [h]
      exact ⟨HBq.out, rfl, _, _, _, _, _, _, _, _, HQ.out, rfl, Ed.map_put _ _ _ _⟩
end Go.Proofs.YthfcjlndaajkfaaGreat
namespace Go.Proofs.YthfcjlndaajkfaaGreat
open Go.RowKit
set_option linter.unusedVariables false
set_option maxRecDepth 100000 in
set_option maxHeartbeats 8000000 in
theorem do7_any {w : World} {base vb : Nat} {nx sq : Int} {A : Option Addr} {n c : Nat} {L : List (Ed.Lg × List (Int × Int))} {B : Option Addr} {m d : Nat} {M : List (Pk.Tb × List (Int × Int))} (hst : StV w base vb nx sq A n c L B m d M) (hbw : base ≤ w.heap.size) (id nn pid pep : Int) (P : Option Addr) (pn pc : Nat) (ps : List (Int × Int)) (tid tep : Int) (Q : Option Addr) (qn qc : Nat) (sz lv ct : Int) (lo hi : ByteArray) (tp : Int) (qs : List (Int × Int)) (hm : m ≤ 100000) :
    Calls Tryz.prog 48 #[.pointer (some ⟨vb, 0, none⟩), .agg #[.int .i64 7, .int .i64 id, .int .i64 nn, .int .i64 pid, .int .i64 pep, .slice P pn pc, .int .i64 tid, .int .i64 tep, .slice Q qn qc, .int .i64 sz, .int .i64 lv, .int .i64 ct, .string lo, .string hi, .int .i64 tp]] w (GivesDo w base vb (Ed.do1 (⟨nx, sq, L.map Ed.loOf, M.map Ed.taOf⟩ : Ed.Ve) (⟨7, id, nn, ⟨pid, pep, ps⟩, ⟨⟨tid, tep, qs⟩, sz, lv, ct, lo, hi, tp⟩⟩ : Ed.Et))) := by
  have hal : Below w.heap.size w (w.alloc (.cells #[.int .i64 7, .int .i64 id, .int .i64 nn, .int .i64 pid, .int .i64 pep, .slice P pn pc, .int .i64 tid, .int .i64 tep, .slice Q qn qc, .int .i64 sz, .int .i64 lv, .int .i64 ct, .string lo, .string hi, .int .i64 tp] 37)) := (Below.refl _ _).alloc (Nat.le_refl _) _
  have hvb := hst.box.1
  have HX := Lib.hid (Holds.new w #[.int .i64 7, .int .i64 id, .int .i64 nn, .int .i64 pid, .int .i64 pep, .slice P pn pc, .int .i64 tid, .int .i64 tep, .slice Q qn qc, .int .i64 sz, .int .i64 lv, .int .i64 ct, .string lo, .string hi, .int .i64 tp] 37)
  have HS := Lib.hid (hst.below hal)
  have HB := Lib.hid (show Below base w (w.alloc (.cells #[.int .i64 7, .int .i64 id, .int .i64 nn, .int .i64 pid, .int .i64 pep, .slice P pn pc, .int .i64 tid, .int .i64 tep, .slice Q qn qc, .int .i64 sz, .int .i64 lv, .int .i64 ct, .string lo, .string hi, .int .i64 tp] 37)) from hal.mono hbw)
  have hlo := hst.lo
  clear hal
  obtain ⟨r, hr⟩ : ∃ r, r = Ed.do1 (⟨nx, sq, L.map Ed.loOf, M.map Ed.taOf⟩ : Ed.Ve) (⟨7, id, nn, ⟨pid, pep, ps⟩, ⟨⟨tid, tep, qs⟩, sz, lv, ct, lo, hi, tp⟩⟩ : Ed.Et) := ⟨_, rfl⟩
  rw [← hr]
  have HR := Lib.hid hr
  clear hr
  go_enter Tryz.func48, Tryz.ntmps48
  go_upto_region 1 with fail
  generalize (w.alloc (.cells #[.int .i64 7, .int .i64 id, .int .i64 nn, .int .i64 pid, .int .i64 pep, .slice P pn pc, .int .i64 tid, .int .i64 tep, .slice Q qn qc, .int .i64 sz, .int .i64 lv, .int .i64 ct, .string lo, .string hi, .int .i64 tp] 37)) = u at *
  replace HX : Hid (Holds u w.heap.size [.int .i64 7, .int .i64 id, .int .i64 nn, .int .i64 pid, .int .i64 pep, .slice P pn pc, .int .i64 tid, .int .i64 tep, .slice Q qn qc, .int .i64 sz, .int .i64 lv, .int .i64 ct, .string lo, .string hi, .int .i64 tp]) := HX
  have x0 := HX.out.at_ 0 rfl
  have v3 := HS.out.box.at_ 3 rfl
  have HI := Lib.hid (ixtable_any B m d M w.heap.size id u HS.out.own.ts.rd (by omega) (HX.out.at_ 1 rfl))
  have HLen := Lib.hid (show (M.map (·.1.id)).length = m by rw [List.length_map]; exact HS.out.own.ts.len)
  cases hf : Ed.find (M.map (·.1.id)) id with
  | none =>
    rw [hf] at HI
    have HF := Lib.hid (show r = none by rw [HR.out]; show (match Ed.find ((M.map Ed.taOf).map (·.p.id)) id with | none => none | some k => _) = none; rw [Ed.tids, hf])
    clear hf
    replace HI : Hid (Calls Tryz.prog 74 #[.slice B m d, .func (.func 75) #[] #[.pointer (some ⟨w.heap.size, 0, none⟩)]] u fun e w' => e = .returned (.int .i64 (-1)) ∧ Below u.heap.size u w') := HI
    go_wp2_with fail
    refine HI.out.mono ?_
    rintro e v ⟨rfl, hbv⟩
    have HV := Lib.hid (show Below base w v from HB.out.trans (hbv.mono (Nat.le_trans hbw HB.out.size)))
    clear hbv v3 x0
    go_wp2
    go_ret
    rw [HF.out]
    exact ⟨HV.out, rfl⟩
  | some k =>
    rw [hf] at HI
    have hkn : k < m := by have := Ed.find_lt hf; have := HLen.out; omega
    have hki : (k : Int) < (m : Int) := by omega
    have hk0 : ¬ (k : Int) < 0 := by omega
    have hk1 : (0 : Int) ≤ (k : Int) := by omega
    have HFd := Lib.hid hf
    obtain ⟨g, hA, _, hgl⟩ := HS.out.own.ts.row.form (by omega)
    subst hA
    have HG := Lib.hid hgl
    clear hf hgl
    replace HI : Hid (Calls Tryz.prog 74 #[.slice (some ⟨g, 0, none⟩) m d, .func (.func 75) #[] #[.pointer (some ⟨w.heap.size, 0, none⟩)]] u fun e w' => e = .returned (.int .i64 (k : Int)) ∧ Below u.heap.size u w') := HI
    go_wp2_with fail
    refine HI.out.mono ?_
    rintro e v ⟨rfl, hbv⟩
    have HV := Lib.hid (show Below base w v from HB.out.trans (hbv.mono (Nat.le_trans hbw HB.out.size)))
    have HSv := Lib.hid (HS.out.below hbv)
    clear hbv v3 HS HI x0
    have v3 := HSv.out.box.at_ 3 rfl
    have hlen : m = (M.map (·.1)).length := by rw [List.length_map]; exact HSv.out.own.ts.len.symm
    have HF := Lib.hid (show r = some { (⟨nx, sq, L.map Ed.loOf, M.map Ed.taOf⟩ : Ed.Ve) with ts := Ed.cut (M.map Ed.taOf) k } by rw [HR.out]; show (match Ed.find ((M.map Ed.taOf).map (·.p.id)) id with | none => none | some k => some { (⟨nx, sq, L.map Ed.loOf, M.map Ed.taOf⟩ : Ed.Ve) with ts := Ed.cut (M.map Ed.taOf) k }) = _; rw [Ed.tids, HFd.out])
    have HD := Lib.hid (show Calls Tryz.prog 76 #[.slice (some ⟨g, 0, none⟩) m d, .int .i64 (k : Int), .int .i64 ((k : Int) + 1)] v fun e w' => e = .returned (.slice (some ⟨g, 0, none⟩) (m - 1) d) ∧ OwnC 9 w' base 35 (some ⟨g, 0, none⟩) (m - 1) d (Pk.flat (Ed.cut (M.map (·.1)) k)) ∧ v.grownBy w' (some g) by
      have h0 := HSv.out.own.ts.row
      rw [hlen] at h0 ⊢
      exact deltable_any base g d k (M.map (·.1)) v h0 (by rw [← hlen]; exact hkn) (by omega))
    clear hlen
    go_wp2_with fail
    refine HD.out.mono ?_
    rintro e q ⟨rfl, hO, hG⟩
    have HQ := Lib.hid (HSv.out.cuttable rfl hkn hO hG)
    have hgb : base ≤ g := (HSv.out.own.ts.row.lt g rfl).1
    have HBq := Lib.hid (show Below base w (q.setCell ⟨vb, 3, none⟩ (.slice (some ⟨g, 0, none⟩) (m - 1) d)) from (HV.out.grown hG (Nat.le_trans hbw HV.out.size) (fun g' e => by injection e with e; omega)).setCell hlo _)
    have q2 := (HSv.out.box.grown hG (fun e => by injection e with e; exact HSv.out.vB (by rw [← e]; rfl))).at_ 3 rfl
    have qf := (HSv.out.box.grown hG (fun e => by injection e with e; exact HSv.out.vB (by rw [← e]; rfl))).2.2 3
    clear hO hG v3
    go_wp2
    go_ret
    rw [HF.out]
    exact ⟨HBq.out, rfl, _, _, _, _, _, _, _, _, HQ.out, rfl, Ed.map_cut _ _ _⟩
end Go.Proofs.YthfcjlndaajkfaaGreat
