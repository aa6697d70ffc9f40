/- Totals, into which a line is put: books.Add. -/
import Derived.Test.YtcoekdfmfjglpaaBoTots
import Derived.Carry
namespace Go.Proofs.Ytcoekdfmfjglpaa
open Go.RowKit Go.Maps
namespace Bo
/-- What Add tells. -/
def addC (T : List Tt) (l : Ln) : Int := if okT none T && okL l then code T l else 230
def addT (T : List Tt) (l : Ln) : List Tt := if addC T l = 0 then next T l else []
theorem srt_take {T : List Tt} (hs : Srt T) (k : Nat) : Srt (T.take k) := List.Pairwise.sublist (List.take_sublist k T) hs
theorem take_ahead {T : List Tt} (hs : Srt T) {k : Nat} {x : Tt} (hx : T[k]? = some x) : ∀ y ∈ T.take k, ahead y.key x.key = true := by
  intro y hy
  obtain ⟨j, hj, he⟩ := List.getElem_of_mem hy
  rw [List.getElem_take] at he
  obtain ⟨hk, hxe⟩ := List.getElem?_eq_some_iff.1 hx
  have hjk : j < k := by rw [List.length_take] at hj; omega
  have h := List.pairwise_iff_getElem.1 hs j k (by omega) hk hjk
  rw [he, hxe] at h
  exact h
end Bo
def GivesAdd (w : World) (T : List Bo.Tt) (l : Bo.Ln) (e : Ending) (w' : World) : Prop :=
  ∃ B c, e = .returned (.tuple #[.slice B (Bo.addT T l).length c, .int .i64 (Bo.addC T l)]) ∧ OwnC 4 w' w.heap.size 46 B (Bo.addT T l).length c (Bo.tflat (Bo.addT T l)) ∧ Below w.heap.size w w'
theorem GivesAdd.no {w w' : World} {T : List Bo.Tt} {l : Bo.Ln} (c : Int) (h : Bo.addC T l = c) (hc : c ≠ 0) (hb : Below w.heap.size w w') : GivesAdd w T l (.returned (.tuple #[.slice none 0 0, .int .i64 c])) w' := by
  have he : Bo.addT T l = [] := by unfold Bo.addT; rw [if_neg (by rw [h]; exact hc)]
  unfold GivesAdd
  rw [he, h]
  exact ⟨none, 0, rfl, OwnC.none_ _ _ _ _, hb⟩
set_option maxRecDepth 100000 in
set_option maxHeartbeats 8000000 in
theorem badd_any (A : Option Addr) (n c : Nat) (T : List Bo.Tt) (x : Bo.Ln) (w : World) (hr : RdT w A n T) (hn : n ≤ 1000) (hks : x.key.size ≤ 9223372036854775807) :
    Calls Try.prog 9 #[.slice A n c, .agg x.cells.toArray] w (GivesAdd w T x) := by
  have HR := Lib.hid hr
  have HL := Lib.hid hr.1
  have HX := Lib.hid hks
  clear hr hks
  generalize hX : x = X at HX
  obtain ⟨kind, key, nn⟩ := x
  have HXe := Lib.hid hX
  have HXc := Lib.hid (show X.cells = [.int .i64 kind, .string key, .int .i64 nn] by rw [← hX]; rfl)
  rw [HXc.out]
  clear hX
  have HBa := Lib.hid (show Below w.heap.size w (w.alloc (.cells #[Value.int .i64 kind, .string key, .int .i64 nn] 25)) from (Below.refl _ _).alloc (Nat.le_refl _) _)
  have HLa := Lib.hid (Holds.new w #[Value.int .i64 kind, .string key, .int .i64 nn] 25)
  have hCk := checkt_any A n c T (w.alloc (.cells #[Value.int .i64 kind, .string key, .int .i64 nn] 25)) (HR.out.below HBa.out) (by omega)
  have HCl := Lib.hid (fun (u : World) => checkl_any X u HX.out)
  rw [HXc.out] at HCl
  cases ht : Bo.okT none T with
  | false =>
    rw [ht] at hCk
    have HA := Lib.hid (show Bo.addC T X = 230 by unfold Bo.addC; rw [ht]; rfl)
    have HCk := Lib.hid hCk
    clear hCk ht
    show Calls _ _ #[.slice A n c, .agg #[.int .i64 kind, .string key, .int .i64 nn]] _ _
    go_enter Try.func9, Try.ntmps9
    go_wp2_with fail
    refine HCk.out.mono ?_
    rintro e w1 ⟨rfl, hb1⟩
    have HB1 := Lib.hid (below_next HBa.out hb1)
    clear hb1
    go_wp2
    go_ret2
    exact GivesAdd.no 230 HA.out (by decide) HB1.out
  | true =>
  rw [ht] at hCk
  have HT := Lib.hid (Bo.okT_iff.1 ht)
  have HCk := Lib.hid hCk
  clear hCk
  cases hl : Bo.okL X with
  | false =>
    rw [hl] at HCl
    have HA := Lib.hid (show Bo.addC T X = 230 by unfold Bo.addC; rw [ht, hl]; rfl)
    clear hl ht
    show Calls _ _ #[.slice A n c, .agg #[.int .i64 kind, .string key, .int .i64 nn]] _ _
    go_enter Try.func9, Try.ntmps9
    go_wp2_with fail
    refine HCk.out.mono ?_
    rintro e w1 ⟨rfl, hb1⟩
    have HB1 := Lib.hid (below_next HBa.out hb1)
    have HL1 := Lib.hid (HLa.out.below hb1)
    clear hb1
    have c0 := HL1.out.at_ 0 rfl
    have c1 := HL1.out.at_ 1 rfl
    have c2 := HL1.out.at_ 2 rfl
    go_wp2_with fail
    refine (HCl.out _).mono ?_
    rintro e w2 ⟨rfl, hb2⟩
    have HB2 := Lib.hid (below_next HB1.out hb2)
    clear hb2 c0 c1 c2
    go_wp2
    go_ret2
    exact GivesAdd.no 230 HA.out (by decide) HB2.out
  | true =>
  rw [hl] at HCl
  have HOk := Lib.hid hl
  have HA := Lib.hid (show Bo.addC T X = Bo.code T X by unfold Bo.addC; rw [ht, hl]; rfl)
  clear hl ht
  show Calls _ _ #[.slice A n c, .agg #[.int .i64 kind, .string key, .int .i64 nn]] _ _
  go_enter Try.func9, Try.ntmps9
  go_wp2_with fail
  refine HCk.out.mono ?_
  rintro e w1 ⟨rfl, hb1⟩
  have HB1 := Lib.hid (below_next HBa.out hb1)
  have HL1 := Lib.hid (HLa.out.below hb1)
  clear hb1
  have c0 := HL1.out.at_ 0 rfl
  have c1 := HL1.out.at_ 1 rfl
  have c2 := HL1.out.at_ 2 rfl
  go_wp2_with fail
  refine (HCl.out _).mono ?_
  rintro e w2 ⟨rfl, hb2⟩
  have HB2 := Lib.hid (below_next HB1.out hb2)
  have HL2 := Lib.hid (HL1.out.below hb2)
  clear hb2 c0 c1 c2 HB1 HL1 HCl HCk HLa HBa
  have hmm := @run_makeMap Try.prog
  go_wp2
  go_loopw [21] (fun ii wr => ∃ (k : Nat), k ≤ n ∧ ii = .int .i64 (k : Int) ∧ Hid (Bk wr w2.heap.size k (T.take k)) ∧ Hid (Below w2.heap.size w2 wr)) (fun ii _ => n - (intOf ii).toNat)
  case atStart => exact ⟨0, by omega, rfl, Lib.hid (Bk.new w2), Lib.hid ((Below.refl _ _).alloc (Nat.le_refl _) _)⟩
  case round =>
    rename_i wr hrel
    obtain ⟨k, hk, rfl, HK, HB⟩ := hrel
    have HBw := Lib.hid (below_next HB2.out HB.out)
    by_cases hlt : k < n
    · have hki : (k : Int) < (n : Int) := by omega
      obtain ⟨x, hx⟩ : ∃ x, T[k]? = some x := ⟨_, List.getElem?_eq_getElem (by rw [HL.out]; exact hlt)⟩
      obtain ⟨b, o, rfl, hbl, hcell⟩ := HR.out.at_ hx
      have HTk := Lib.hid (show Bo.ins (T.take k) x = T.take (k + 1) by rw [Bo.ins_last (Bo.take_ahead HT.out.1 hx), List.take_add_one, hx]; rfl)
      have hxin := HT.out.2 x (List.mem_of_getElem? hx)
      have hkx := Bo.nm_le hxin.2
      have hin := hxin.1
      have HKa := Lib.hid (HK.out.alloc (.cells #[Value.string x.key, .int .i64 x.free, .int .i64 x.held, .int .i64 x.out] 46))
      obtain ⟨w6, hrun, hb6, hg6⟩ := HKa.out.store (by omega) (Bo.srt_take HT.out.1 k) x (by omega)
      have hsz := HB.out.size
      have HF := Lib.hid (show Bk w6 w2.heap.size (k + 1) (T.take (k + 1)) ∧ Below w2.heap.size w2 w6 from ⟨by rw [← HTk.out]; exact hb6, (HB.out.alloc hsz _).grown hg6 (by simp; omega) (fun j hj => by injection hj with hj; omega)⟩)
      clear hb6 hg6 HKa hxin
      obtain ⟨key2, fr, he, ou⟩ := x
      unfold Bo.InX at hin
      dsimp only at hin hkx hrun
      have e0 : wr.cell? ⟨b, o + k * 4, none⟩ = some (.string key2) := (HBw.out.cell hbl).trans (hcell 0 _ rfl)
      have e1 : wr.cell? ⟨b, o + k * 4 + 1, none⟩ = some (.int .i64 fr) := (HBw.out.cell hbl).trans (hcell 1 _ rfl)
      have e2 : wr.cell? ⟨b, o + k * 4 + 2, none⟩ = some (.int .i64 he) := (HBw.out.cell hbl).trans (hcell 2 _ rfl)
      have e3 : wr.cell? ⟨b, o + k * 4 + 3, none⟩ = some (.int .i64 ou) := (HBw.out.cell hbl).trans (hcell 3 _ rfl)
      have hf1 : floatOfInt .f64 fr = Bo.fl fr := rfl
      have hf2 : floatOfInt .f64 he = Bo.fl he := rfl
      replace hrun : (Instr.mapUpdate 52 (.map (some w2.heap.size)) (.string key2) (.agg #[.complex .f64 (Bo.fl fr) (Bo.fl he), .int .i64 ou])).run Try.prog (wr.alloc (.cells #[Value.string key2, .int .i64 fr, .int .i64 he, .int .i64 ou] 46)) = .ok () w6 := hrun
      clear hx hcell hbl hin hkx hsz
      go_wp2
      go_roundw
      case rel => exact ⟨k + 1, by omega, by go_num, Lib.hid HF.out.1, Lib.hid HF.out.2⟩
      case measure => simp [intOf]; omega
    · have hke : k = n := by omega
      obtain rfl : n = k := hke.symm
      have hnk : ¬ (n : Int) < (n : Int) := by omega
      clear hlt
      have HKn : Hid (Bk wr w2.heap.size n T) := Lib.hid (by have h := HK.out; rw [List.take_of_length_le (Nat.le_of_eq HL.out)] at h; exact h)
      have HLr := Lib.hid (HL2.out.below HB.out)
      have c0 := HLr.out.at_ 0 rfl
      have c1 := HLr.out.at_ 1 rfl
      have c2 := HLr.out.at_ 2 rfl
      have HP := Lib.hid (bput_any w2.heap.size n T X wr HKn.out HT.out.1 HT.out.2 HOk.out (by omega))
      rw [HXc.out] at HP
      have h2s := HB2.out.size
      clear HK
      go_wp2_with fail
      refine HP.out.mono ?_
      rintro e w3 ⟨rfl, hb3, hk3⟩
      have HB3 := Lib.hid (below_next HB2.out (HB.out.trans hb3))
      clear hb3 c0 c1 c2 HP
      by_cases hz : Bo.code T X = 0
      · have HK3 := Lib.hid (hk3 hz)
        have HNs := Lib.hid (Bo.srt_ins HT.out.1 (Bo.put (Bo.get T X.key) X))
        have HNi := Lib.hid (Bo.next_in HT.out.1 HT.out.2 HOk.out hz)
        have HNl := Lib.hid (show (Bo.next T X).length ≤ 100000 by have := (Bo.ins_len T (Bo.put (Bo.get T X.key) X)).1; have := HL.out; unfold Bo.next; omega)
        have HTo := Lib.hid (totals_any w2.heap.size (n + 1) (Bo.next T X) w3 HK3.out HNs.out HNi.out (by omega) HNl.out)
        have HAz := Lib.hid (HA.out.trans hz)
        rw [hz]
        clear hk3 hz HK3 HNs HNi HNl HA
        go_wp2_with fail
        refine HTo.out.mono ?_
        rintro e w4 ⟨B, c4, rfl, ho4, hb4⟩
        have HF := Lib.hid (show GivesAdd w T X (.returned (.tuple #[.slice B (Bo.next T X).length c4, .int .i64 0])) w4 by
          unfold GivesAdd
          rw [show Bo.addT T X = Bo.next T X by unfold Bo.addT; rw [if_pos HAz.out], HAz.out]
          exact ⟨B, c4, rfl, ho4.base_ HB3.out.size, below_next HB3.out hb4⟩)
        clear ho4 hb4
        go_wp2
        go_ret2
        exact HF.out
      · have HF := Lib.hid (GivesAdd.no (w := w) (T := T) (l := X) _ HA.out hz HB3.out)
        generalize Bo.code T X = cd at *
        have hne : (cd == 0) = false := beq_eq_false_iff_ne.2 hz
        clear hk3
        go_wp2
        go_ret2
        exact HF.out
end Go.Proofs.Ytcoekdfmfjglpaa
