/- Log.read: the payloads of a log. -/
import Derived.Test.YtpggomekbahddaaWlFr
import Derived.Test.YtpggomekbahddaaM09
import Derived.Deep.RegionHeld3
namespace Go.Proofs.Ytpggomekbahddaa
open Go.RowKit Fi Fr
set_option linter.unusedVariables false
set_option linter.unusedSimpArgs false
/-- What holds at the labels of read. -/
def ReadJ (w : World) (lb : Nat) (Ps : List (List Nat)) (E : Int) (l : Nat) (x : Act) (v : World) : Prop :=
  l ≤ 1 ∧ x.tmps.size = 68 ∧ x.defers = [] ∧ x.tmps.getD 0 undef = .pointer (some ⟨lb, 0, none⟩) ∧
    ∃ (k : Nat) (R : Option Addr) (rc : Nat) (last : Int), x.tmps.getD 4 undef = .slice R k rc ∧ x.tmps.getD 5 undef = .int .i64 last ∧ x.tmps.getD 6 undef = .int .i64 (k : Int) ∧ k ≤ Ps.length ∧ (l = 0 → k = Ps.length) ∧ (0 ≤ last ∧ last ≤ E) ∧
      OwnB v w.heap.size R k rc (Ps.take k) (fun _ => True) ∧ Below w.heap.size w v
def ReadM (l : Nat) (x : Act) (_ : World) : Nat := l + 2 * (30 - (intOf (x.tmps.getD 6 undef)).toNat)
set_option maxRecDepth 100000 in
set_option maxHeartbeats 8000000 in
theorem lread_any (lb n cp kind E : Nat) (e tk EL rec : Int) (A : Option Addr) (Ps : List (List Nat)) (w : World) (d : Nat) (lab : Nat → Tag) (st : Dk.St) (h : IsDisk w d lab st) (hbx : Holds w lb [.int .i64 7, .int .i64 e, .slice A n cp, .int .i64 (kind : Int), .int .i64 tk, .pointer (some ⟨d, 0, none⟩), .int .i64 EL, .int .i64 rec]) (hr : RdC 2 w A n (pv (Wl.pairs n))) (hg : Wl.Lg st n kind E Ps) (h1 : 1 ≤ n) (he : 1 ≤ e ∧ e ≤ (E : Int)) (hE : E ≤ 2147483647) (hk : 1 ≤ kind ∧ kind ≤ 4) (hEL : (E : Int) ≤ EL) :
    Calls Try.prog 24 #[.pointer (some ⟨lb, 0, none⟩)] w fun x w' => Below w.heap.size w w' ∧ ∃ R c, x = .returned (.tuple #[.slice R Ps.length c, .int .i64 0]) ∧ RdB w' R Ps.length Ps ∧ Ps.length ≤ c := by
  have HFr := Lib.hid (fun (i : Nat) (hi : i < 8 * n) (W : World) (hW : Below w.heap.size w W) => lfr_any n cp kind E i e A Ps W d lab st (h.below hW) (hr.below hW) hg h1 he hE hk hi)
  have HBx := Lib.hid hbx
  have HF := Lib.hid (fun (W : World) => show Calls Try.prog 31 #[.agg #[.int .i64 7, .int .i64 e, .slice A n cp]] W (fun x w' => x = .returned (.int .i64 (8 * (n : Int))) ∧ Below W.heap.size W w') from by
    have := frames_any (Wl.pl n e) A cp W (by show (Wl.pairs n).length ≤ 1000; rw [Wl.pairs_len hg.n3]; have := hg.n3; omega)
    unfold Fi.val Wl.pl at this
    dsimp only at this
    rw [Wl.pairs_len hg.n3] at this
    exact this)
  have HN := Lib.hid hg.n3
  have HLe := Lib.hid hg.le
  have HE := Lib.hid hE
  have HEa := Lib.hid (fun (k : Nat) (p : List Nat) (hp : Ps[k]? = some p) => (hg.each k p hp).2.2.1)
  clear h hbx hr hg he hk h1 hE
  go_enter Try.func24, Try.ntmps24
  go_wp2_with fail
  refine wp_scope2 (ReadJ w lb Ps (E : Int)) ReadM rfl rfl (fun l x w h => h.1) ?_ ?_ ?_
  · intro hp1
    go_wp2_with fail
    go_step3
    rename_i hk
    refine hk _ _ (hp1 _ _ ?_)
    exact ⟨by omega, rfl, rfl, rfl, 0, none, 0, 0, rfl, rfl, rfl, Nat.zero_le _, fun e => (by cases e), ⟨by omega, by omega⟩, OwnB.none_ _ _ _, Below.refl _ _⟩
  · rintro x v ⟨_, hs, hd, h0, k, R, rc, last, h4, h5, h6, hk, _, hla, hO, hB⟩
    obtain ⟨u, rfl, hu⟩ := act68 x hs hd
    clear hu hs hd
    change u 0 = _ at h0
    change u 4 = _ at h4
    change u 5 = _ at h5
    change u 6 = _ at h6
    rw [h0, h4, h5, h6]
    clear h0 h4 h5 h6
    have HO := Lib.hid hO
    have HB := Lib.hid hB
    have c0 := (HBx.out.below HB.out).at_ 0 rfl
    have c1 := (HBx.out.below HB.out).at_ 1 rfl
    have c2 := (HBx.out.below HB.out).at_ 2 rfl
    clear hO hB
    go_wp2_with fail
    refine (HF.out _).mono ?_
    rintro x v1 ⟨rfl, hb1⟩
    have HB1 := Lib.hid (below_next HB.out hb1)
    have HO1 := Lib.hid (HO.out.below hb1)
    clear c0 c1 c2 hb1 HO HB
    by_cases hkn : k = 8 * n
    · have hki : ((k : Int) == 8 * (n : Int)) = true := by simp; omega
      have HKL := Lib.hid (show k = Ps.length by have := HLe.out; omega)
      clear hkn
      go_wp2_with fail
      first | go_step3 | skip
      refine ⟨⟨by omega, rfl, rfl, rfl, k, R, rc, last, rfl, rfl, rfl, hk, fun _ => HKL.out, hla, HO1.out, HB1.out⟩, ?_⟩
      simp [ReadM, intOf]
    · have hki : ((k : Int) == 8 * (n : Int)) = false := by simp; omega
      have hkb : k < 8 * n := by have := HLe.out; omega
      have hk24 : (k : Int) < 24 := by have := HN.out; omega
      have hk0 : (0 : Int) ≤ (k : Int) := by omega
      have HKM := Lib.hid (show k < 30 by omega)
      have HFk := Lib.hid (HFr.out k hkb)
      have HCs := Lib.hid (fun (W : World) (hW : Below w.heap.size w W) => And.intro ((HBx.out.below hW).at_ 0 rfl) (And.intro ((HBx.out.below hW).at_ 1 rfl) (And.intro ((HBx.out.below hW).at_ 2 rfl) (And.intro ((HBx.out.below hW).at_ 3 rfl) ((HBx.out.below hW).at_ 5 rfl)))))
      have hd : Below w.heap.size w v1.drew := HB1.out.drew
      clear hkn hkb
      cases hp : Ps[k]? with
      | none =>
        rw [hp] at HFk
        have HL := Lib.hid (show k = Ps.length by have := List.getElem?_eq_none_iff.1 hp; omega)
        clear hp
        go_upto_region 4 with fail
        go_region_held3 (fun w' => w'.cell? ⟨lb, 0, none⟩ = some (.int .i64 7) ∧ w'.cell? ⟨lb, 1, none⟩ = some (.int .i64 e) ∧ w'.cell? ⟨lb, 2, none⟩ = some (.slice A n cp) ∧ w'.cell? ⟨lb, 3, none⟩ = some (.int .i64 (kind : Int)) ∧ w'.cell? ⟨lb, 5, none⟩ = some (.pointer (some ⟨d, 0, none⟩))) (first | exact HCs.out _ hd | exact HCs.out _ hd2) (first | (go_at_call 35; refine (HFk.out _ hd).mono ?_; rintro x v2 ⟨hb2, rfl⟩; have hd2 : Below w.heap.size w v2 := below_next hd hb2))
        have HB2 := Lib.hid hd2
        have HO2 := Lib.hid ((HO1.out.below ((Below.refl _ _).drew)).below hb2)
        clear hd hd2 hb2 HB1 HO1 HFk
        go_wp2_with fail
        first | go_step3 | skip
        refine ⟨⟨by omega, rfl, rfl, rfl, k, R, rc, last, rfl, rfl, rfl, hk, fun _ => HL.out, hla, HO2.out, HB2.out⟩, ?_⟩
        simp [ReadM, intOf]
      | some p =>
        rw [hp] at HFk
        have HPl := Lib.hid (HEa.out k p hp)
        have HTk := Lib.hid (show Ps.take (k + 1) = Ps.take k ++ [p] by rw [List.take_add_one, hp]; rfl)
        have hnl : ¬ (E : Int) < last := by omega
        have hne : ¬ EL < (E : Int) := by omega
        have hkl : k < Ps.length := (List.getElem?_eq_some_iff.1 hp).1
        clear hp
        go_upto_region 4 with fail
        go_region_held3 (fun w' => w'.cell? ⟨lb, 0, none⟩ = some (.int .i64 7) ∧ w'.cell? ⟨lb, 1, none⟩ = some (.int .i64 e) ∧ w'.cell? ⟨lb, 2, none⟩ = some (.slice A n cp) ∧ w'.cell? ⟨lb, 3, none⟩ = some (.int .i64 (kind : Int)) ∧ w'.cell? ⟨lb, 5, none⟩ = some (.pointer (some ⟨d, 0, none⟩))) (first | exact HCs.out _ hd | exact HCs.out _ hd2) (first | (go_at_call 35; refine (HFk.out _ hd).mono ?_; rintro x v2 ⟨hb2, Q, qc, rfl, hq, hnw, hqc⟩; have hd2 : Below w.heap.size w v2 := below_next hd hb2))
        have HB2 := Lib.hid hd2
        have hO2 := (HO1.out.below ((Below.refl _ _).drew)).below hb2
        have c6 := (HBx.out.below hd2).at_ 6 rfl
        have hrb := hO2.blk
        have hrb1 := HO1.out.blk
        obtain ⟨vs, hrow, hit⟩ := hO2.row
        have hsz := hd2.size
        have hitem : Item v2 (fun b => True ∧ some b ≠ (Value.slice R k rc).ownBlock) (.slice Q p.length qc) p := by
          refine ⟨Q, qc, rfl, hq, hqc, by have := HPl.out; omega, fun b' o' e hl => ⟨trivial, fun e2 => ?_⟩⟩
          have h3 := hnw b' o' e
          have h4 := (hrb1 b' e2.symm).2
          simp at h3
          omega
        have hb3 : Below v2.heap.size v2 (v2.alloc (.cells #[.slice Q p.length qc] 23)) := (Below.refl _ _).alloc (Nat.le_refl _) _
        have hn1 : k + 1 ≤ 1000000 := by omega
        have hba : w.heap.size ≤ (v2.alloc (.cells #[Value.slice Q p.length qc] 23)).heap.size := by simp; omega
        have hrow2 := hrow.below hb3
        have hra := rdv_one v2 23 (.slice Q p.length qc)
        have hone : ∀ u ∈ [Value.slice Q p.length qc], u.oneCell' = true := by intro u hu; rw [List.mem_singleton] at hu; subst hu; rfl
        have HIt := Lib.hid (hit.below hb3)
        have HIm := Lib.hid (hitem.below hb3)
        have HB3 := Lib.hid (hd2.trans (hb3.mono hd2.size))
        have HRb := Lib.hid hrb
        have HRow := Lib.hid hrow2
        clear hO2 hrow hit hitem hb3 hrb hq hnw hqc hd hd2 hb2 HB1 HO1 HFk hrb1 hsz
        go_wp2_with (first | (at_builtin; refine wpList_appV oneB rfl (.tmp 60) (.tmp 62) rfl rfl hrow2 (some ⟨v2.heap.size, 0, none⟩) 1 1 [.slice Q p.length qc] hone rfl hra hn1 hba ?_; intro A8 c8 v8 hg8))
        have hO8 := OwnB.snoc HRow.out HIt.out HIm.out hg8
        have hB8 := hg8.below HB3.out hba (fun g h => (HRb.out g h).1)
        rw [← HTk.out] at hO8
        clear hg8
        first | go_step3 | skip
        refine ⟨⟨by omega, rfl, rfl, rfl, k + 1, A8, c8, (E : Int), rfl, rfl, ?_, by omega, fun e => (by cases e), ⟨by omega, by omega⟩, hO8, hB8⟩, ?_⟩
        · first | rfl | (show Value.int .i64 _ = _; congr 1; omega)
        · simp [ReadM, intOf]; have := HKM.out; omega
  · rintro x v ⟨_, hs, hd, h0, k, R, rc, last, h4, h5, h6, hk, hkl, hla, hO, hB⟩
    obtain ⟨u, rfl, hu⟩ := act68 x hs hd
    clear hu hs hd
    change u 0 = _ at h0
    change u 4 = _ at h4
    change u 5 = _ at h5
    change u 6 = _ at h6
    rw [h0, h4, h5, h6]
    clear h0 h4 h5 h6
    obtain rfl := hkl rfl
    rw [List.take_length] at hO
    have HO := Lib.hid hO
    have HB := Lib.hid hB
    clear hO hB
    go_wp2
    simp only [Exit.jumps]
    go_ret2
    exact ⟨HB.out, R, rc, rfl, HO.out.rd, HO.out.fits⟩
end Go.Proofs.Ytpggomekbahddaa
