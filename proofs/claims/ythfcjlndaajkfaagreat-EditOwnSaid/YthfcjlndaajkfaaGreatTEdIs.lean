/- The document's Is: may a version be? -/
import Derived.Test.YthfcjlndaajkfaaGreatTEdIs1
import Derived.Test.YthfcjlndaajkfaaGreatG05
import Derived.Deep.CutBlock
import Derived.Deep.DeepCutAuto
import Derived.Test.YthfcjlndaajkfaaGreatTHeldS
namespace Go.Proofs.YthfcjlndaajkfaaGreat
open Go.RowKit
set_option linter.unusedVariables false
set_option linter.unusedSimpArgs false
theorem Ed.wrap_nat {j : Nat} (h : j ≤ 9223372036854775807) : IntKind.i64.wrap (j : Int) = (j : Int) := by
  first
  | (rw [IntKind.wrap_i64]; unfold wrap64; omega)
  | (rw [IntKind.wrap_i64]; omega)
  | (simp [IntKind.wrap, IntKind.bits, IntKind.signed]; omega)
theorem Ed.rdi_lit (w : World) (l : List Int) (E : TypeId) : RdI (w.alloc (.cells (Pk.iv l).toArray E)) (some ⟨w.heap.size, 0, none⟩) l.length l := by
  have h := Holds.new w (Pk.iv l).toArray E
  refine ⟨rfl, by unfold Pk.iv; simp, fun _ => ⟨_, 0, rfl, by simp, fun j v hv => ?_⟩⟩
  rw [Nat.zero_add]
  exact h.at_ j (by simpa using hv)
theorem Ed.upto_next {p : Nat → Bool} {k : Nat} (h : ∀ i, i < k → p i = true) (hk : p k = true) : ∀ i, i < k + 1 → p i = true := fun i hi => by
  by_cases e : i = k
  · rw [e]; exact hk
  · exact h i (by omega)
def Ed.plT (M : List (Pk.Tb × List (Int × Int))) : List Int := (M.map fun x => Ed.fl x.2).flatten
def Ed.plK (L : List (Ed.Lg × List (Int × Int))) : List Int := (L.map fun x => Ed.fl x.2).flatten
theorem Ed.is_end (nx sq : Int) (L : List (Ed.Lg × List (Int × Int))) (M : List (Pk.Tb × List (Int × Int))) (h1 : Ed.head (⟨nx, sq, L.map Ed.loOf, M.map Ed.taOf⟩ : Ed.Ve) = true) (h2 : Ed.okLs (L.map Ed.loOf) = true) (h3 : Ed.okTs sq (M.map Ed.taOf) = true) (h4 : Ed.apartB (M.map Ed.taOf) = true) :
    (⟨nx, sq, L.map Ed.loOf, M.map Ed.taOf⟩ : Ed.Ve).ok = ((L.map (·.1.id) ++ M.map (·.1.id)).all (fun x => decide (x < nx)) && decide (L.map (·.1.id) ++ M.map (·.1.id)).Nodup && decide (Ed.plK L ++ Ed.plT M).Nodup) ∧ ((Ed.plK L ++ Ed.plT M).Nodup → (Ed.plK L ++ Ed.plT M).length ≤ 511) := by
  have e1 : (⟨nx, sq, L.map Ed.loOf, M.map Ed.taOf⟩ : Ed.Ve).ids = L.map (·.1.id) ++ M.map (·.1.id) := by unfold Ed.Ve.ids; rw [List.map_map, List.map_map]; rfl
  have e2 : (⟨nx, sq, L.map Ed.loOf, M.map Ed.taOf⟩ : Ed.Ve).plots = Ed.plK L ++ Ed.plT M := by unfold Ed.Ve.plots Ed.plK Ed.plT; rw [List.map_map, List.map_map]; rfl
  refine ⟨?_, fun hn => Ed.pigeon 511 _ hn fun z hz => ?_⟩
  · rw [Ed.ok_parts, e1, e2, h1, h4]
    dsimp only
    rw [h2, h3]
    simp
  · rcases List.mem_append.1 hz with hz | hz
    · obtain ⟨l, hl, hz⟩ := List.mem_flatten.1 hz
      obtain ⟨y, hy, rfl⟩ := List.mem_map.1 hl
      exact (Ed.okP_rng (Ed.okLs_q h2 (Ed.loOf y) (List.mem_map_of_mem hy))).2.2 z hz
    · obtain ⟨l, hl, hz⟩ := List.mem_flatten.1 hz
      obtain ⟨y, hy, rfl⟩ := List.mem_map.1 hl
      exact (Ed.okP_rng (Ed.okT_q (Ed.okTs_q h3 (Ed.taOf y) (List.mem_map_of_mem hy))).1).2.2 z hz
set_option maxRecDepth 100000 in
set_option maxHeartbeats 32000000 in
theorem ris_any (nx sq : Int) (A : Option Addr) (n c : Nat) (B : Option Addr) (m d : Nat) (L : List (Ed.Lg × List (Int × Int))) (M : List (Pk.Tb × List (Int × Int))) (w : World) (hL : RdLs w A n L) (hM : RdTs w B m M) (hn : n ≤ 9223372036854775807) (hm : m ≤ 9223372036854775807) :
    Calls Tryz.prog 12 #[.agg #[.int .i64 nx, .int .i64 sq, .slice A n c, .slice B m d]] w fun e w' => e = .returned (.bool (⟨nx, sq, L.map Ed.loOf, M.map Ed.taOf⟩ : Ed.Ve).ok) ∧ Below w.heap.size w w' := by
  have hbu : Below w.heap.size w (w.alloc (.cells #[.int .i64 nx, .int .i64 sq, .slice A n c, .slice B m d] 25)) := (Below.refl _ _).alloc (Nat.le_refl _) _
  have HBu := hd_ hbu
  have HL1 := hd_ (hL.below hbu)
  have HM1 := hd_ (hM.below hbu)
  have HLl := hd_ hL.len
  have HMl := hd_ hM.len
  have HXu := hd_ (Holds.new w #[.int .i64 nx, .int .i64 sq, .slice A n c, .slice B m d] 25)
  have hsu : (w.alloc (.cells #[.int .i64 nx, .int .i64 sq, .slice A n c, .slice B m d] 25)).heap.size = w.heap.size + 1 := by simp
  have HSu := hd_ hsu
  clear hL hM hbu hsu
  obtain ⟨ans, hans⟩ : ∃ a, a = (⟨nx, sq, L.map Ed.loOf, M.map Ed.taOf⟩ : Ed.Ve).ok := ⟨_, rfl⟩
  have HA := hd_ hans
  rw [← hans]
  clear hans
  go_enter Tryz.func12, Tryz.ntmps12
  go_upto_region 1 with fail
  generalize (w.alloc (.cells #[.int .i64 nx, .int .i64 sq, .slice A n c, .slice B m d] 25)) = u at *
  replace HXu : Hid (Holds u w.heap.size [.int .i64 nx, .int .i64 sq, .slice A n c, .slice B m d]) := HXu
  have x0 := HXu.out.at_ 0 rfl
  have x1 := HXu.out.at_ 1 rfl
  have x2 := HXu.out.at_ 2 rfl
  have x3 := HXu.out.at_ 3 rfl
  have hhd : Ed.head (⟨nx, sq, L.map Ed.loOf, M.map Ed.taOf⟩ : Ed.Ve) = (Ed.from_ nx 1 2147483647 && Ed.from_ sq 0 1099511627776 && decide (n ≤ 32) && decide (m ≤ 128)) := by
    unfold Ed.head
    dsimp only
    rw [List.length_map, List.length_map, HLl.out, HMl.out]
  have HHd := hd_ hhd
  clear hhd
  have N0 := hd_ (fun (h : (Ed.from_ nx 1 2147483647 && Ed.from_ sq 0 1099511627776 && decide (n ≤ 32) && decide (m ≤ 128)) = false) => show false = ans from by rw [HA.out, Ed.no_head (by rw [HHd.out]; exact h)])
  have F1 := hd_ (from_any nx 1 2147483647 u)
  have F2 := hd_ (from_any sq 0 1099511627776 u)
  cases h1 : Ed.from_ nx 1 2147483647 with
  | false =>
    have HF := hd_ (N0.out (by rw [h1]; rfl))
    rw [h1] at F1
    clear h1
    go_wp2_with fail
    refine F1.out.mono ?_
    rintro e v ⟨rfl, rfl⟩
    go_wp2
    go_ret
    exact ⟨by rw [← HF.out]; rfl, HBu.out⟩
  | true =>
  rw [h1] at F1
  cases h2 : Ed.from_ sq 0 1099511627776 with
  | false =>
    have HF := hd_ (N0.out (by rw [h1, h2]; rfl))
    rw [h2] at F2
    clear h1 h2
    go_wp2_with fail
    refine F1.out.mono ?_
    rintro e v ⟨rfl, rfl⟩
    go_wp2_with fail
    refine F2.out.mono ?_
    rintro e v ⟨rfl, rfl⟩
    go_wp2
    go_ret
    exact ⟨by rw [← HF.out]; rfl, HBu.out⟩
  | true =>
  rw [h2] at F2
  by_cases h3 : n ≤ 32
  case neg =>
    have HF := hd_ (N0.out (by rw [h1, h2, decide_eq_false h3]; rfl))
    have hgt : (32 : Int) < (n : Int) := by omega
    clear h1 h2 h3
    go_wp2_with fail
    refine F1.out.mono ?_
    rintro e v ⟨rfl, rfl⟩
    go_wp2_with fail
    refine F2.out.mono ?_
    rintro e v ⟨rfl, rfl⟩
    go_wp2
    go_ret
    exact ⟨by rw [← HF.out]; rfl, HBu.out⟩
  have hgt : ¬ (32 : Int) < (n : Int) := by omega
  by_cases h4 : m ≤ 128
  case neg =>
    have HF := hd_ (N0.out (by rw [h1, h2, decide_eq_true h3, decide_eq_false h4]; rfl))
    have hgm : (128 : Int) < (m : Int) := by omega
    clear h1 h2 h3 h4
    go_wp2_with fail
    refine F1.out.mono ?_
    rintro e v ⟨rfl, rfl⟩
    go_wp2_with fail
    refine F2.out.mono ?_
    rintro e v ⟨rfl, rfl⟩
    go_wp2
    go_ret
    exact ⟨by rw [← HF.out]; rfl, HBu.out⟩
  have hgm : ¬ (128 : Int) < (m : Int) := by omega
  have HYes := hd_ (show Ed.head (⟨nx, sq, L.map Ed.loOf, M.map Ed.taOf⟩ : Ed.Ve) = true by rw [HHd.out, h1, h2, decide_eq_true h3, decide_eq_true h4]; rfl)
  clear h1 h2 N0 HHd
  go_wp2_with fail
  refine F1.out.mono ?_
  rintro e v ⟨rfl, rfl⟩
  go_wp2_with fail
  refine F2.out.mono ?_
  rintro e v ⟨rfl, rfl⟩
  clear F1 F2
  go_wp2_with fail
  clear x0 x1 x2 x3 hgt hgm
  have HXp := hd_ (fun (W : World) (hW : Below v.heap.size v W) => HXu.out.below hW)
  have hvs : w.heap.size < v.heap.size := HXu.out.1
  go_loopw [3, 4, 5] (fun s3 s4 s5 wr => ∃ (k : Nat) (R : Option Addr) (rc : Nat) (T : Option Addr) (tc : Nat) (al : List Int), k ≤ n ∧ s3 = .slice R k rc ∧ s4 = .slice T al.length tc ∧ s5 = .int .i64 (k : Int) ∧ Hid (al = Ed.plK (L.take k)) ∧ al.length ≤ 128 * k ∧ Hid (TwoR v.heap.size wr R k rc ((L.take k).map (·.1.id)) T al.length tc al) ∧ Hid (∀ i, i < k → Ed.lokAt (L.map Ed.loOf) i = true) ∧ Hid (Below v.heap.size v wr)) (fun _ _ s5 _ => n - (intOf s5).toNat)
  case atStart => exact ⟨0, none, 0, none, 0, [], by omega, rfl, rfl, rfl, hd_ rfl, by simp, hd_ (TwoR.nil _ _), hd_ (fun i hi => by omega), hd_ (Below.refl _ _)⟩
  case round =>
    obtain ⟨k, R, rc, T, tc, al, hk, rfl, rfl, rfl, HAl, hal, HRw, HOk, HB⟩ := hrel
    have x2 := (HXp.out _ HB.out).at_ 2 rfl
    have x3 := (HXp.out _ HB.out).at_ 3 rfl
    by_cases hlt : k < n
    · have hki : (k : Int) < (n : Int) := by omega
      have hk0 : (0 : Int) ≤ (k : Int) := by omega
      obtain ⟨y, hy⟩ : ∃ y, L[k]? = some y := ⟨_, List.getElem?_eq_getElem (by rw [HLl.out]; exact hlt)⟩
      have HY := hd_ hy
      obtain ⟨b, o, hAb, _, hp, hc⟩ := HL1.out.four hy
      have HLo0 := hd_ (Ed.lok_yes (L := L.map Ed.loOf) (k := k) (l := Ed.loOf y) (by rw [List.getElem?_map, hy]; rfl))
      rw [List.length_map, HLl.out] at HLo0
      subst hAb
      obtain ⟨⟨id, ep, P, pn, pc, se⟩, ps⟩ := y
      obtain ⟨e0, e1, e2, e3⟩ := hc wr HB.out
      dsimp only at e0 e1 e2 e3 hp
      clear hy hc
      obtain ⟨opn, hopn⟩ : ∃ o, o = (decide (k + 1 = n) && decide (se = -1)) := ⟨_, rfl⟩
      obtain ⟨lok, hlok⟩ : ∃ l, l = Ed.lokAt (L.map Ed.loOf) k := ⟨_, rfl⟩
      have HLo := hd_ (show lok = (Ed.okP id ep ps && (opn || Ed.from_ se 0 1099511627776) && decide (Ed.before ((L.map Ed.loOf).map (·.p.id)) k < id)) by rw [hlok, HLo0.out, hopn]; rfl)
      have HLk0 := hd_ hlok
      have HOp := hd_ hopn
      have HB0 := hd_ (show True ∧ (k = 0 → decide (Ed.before ((L.map Ed.loOf).map (·.p.id)) k < id) = decide (0 < id)) from ⟨trivial, fun h => by rw [h]; rfl⟩)
      clear hlok hopn HLo0
      have hal1 : Below wr.heap.size wr (wr.alloc (.cells #[.int .i64 id, .int .i64 ep, .slice P pn pc, .int .i64 se] 62)) := (Below.refl _ _).alloc (Nat.le_refl _) _
      have HT := hd_ (Holds.new wr #[.int .i64 id, .int .i64 ep, .slice P pn pc, .int .i64 se] 62)
      have HRa := hd_ (HRw.out.below hal1)
      have HBa := hd_ (below_next HB.out hal1)
      have HPx := hd_ (hp.below HBa.out)
      have HPv := hd_ (fun (W : World) (hW : Below v.heap.size v W) => (hp.below hW).1)
      have HRl := hd_ (And.intro (fun (g : Nat) (hg : (Value.slice R k rc).ownBlock = some g) => (HRw.out.ol.blk g hg).2) (fun (g : Nat) (hg : (Value.slice T al.length tc).ownBlock = some g) => (HRw.out.ot.blk g hg).2))
      have hbx : v.heap.size ≤ wr.heap.size := HB.out.size
      have x2a := (HXp.out _ HBa.out).at_ 2 rfl
      go_upto_region 8 with fail
      clear e0 e1 e2 e3 x2 x3 HRw HB hal1 hp
      generalize (wr.alloc (.cells #[.int .i64 id, .int .i64 ep, .slice P pn pc, .int .i64 se] 62)) = wa at *
      generalize wr.heap.size = xb at *
      replace HT : Hid (Holds wa xb [.int .i64 id, .int .i64 ep, .slice P pn pc, .int .i64 se]) := HT
      go_cut [7] from 46 to 56 (fun s7 W => s7 = .bool opn ∧ W = wa)
      case first =>
        have t3 := HT.out.at_ 3 rfl
        have hn1 : (n : Int) - 1 = ((n - 1 : Nat) : Int) := by omega
        by_cases h5 : k + 1 = n
        · have q1 : ((k : Int) == ((n - 1 : Nat) : Int)) = true := by rw [beq_iff_eq]; omega
          by_cases h6 : se = -1
          · have q2 : (se == -1) = true := by rw [h6]; rfl
            have HQ := hd_ (show opn = true by rw [HOp.out, decide_eq_true h5, decide_eq_true h6]; rfl)
            clear h5 h6
            go_wp2_with fail
            go_meet
            case rel => exact ⟨by rw [HQ.out], rfl⟩
          · have q2 : (se == -1) = false := beq_eq_false_iff_ne.2 h6
            have HQ := hd_ (show opn = false by rw [HOp.out, decide_eq_false h6, Bool.and_false])
            clear h5 h6
            go_wp2_with fail
            go_meet
            case rel => exact ⟨by rw [HQ.out], rfl⟩
        · have q1 : ((k : Int) == ((n - 1 : Nat) : Int)) = false := by rw [beq_eq_false_iff_ne]; omega
          have HQ := hd_ (show opn = false by rw [HOp.out, decide_eq_false h5, Bool.false_and])
          clear h5
          go_wp2_with fail
          go_meet
          case rel => exact ⟨by rw [HQ.out], rfl⟩
      case rest =>
        obtain ⟨rfl, hwc⟩ := hcut
        rw [hwc]
        clear hwc
        have hbd : Below wa.heap.size wa wa.drew := (Below.refl _ _).drew
        have HBd := hd_ (below_next HBa.out hbd)
        have HPc := hd_ (isplace_any id ep P pn pc ps wa.drew (HPx.out.below hbd).1 HPx.out.2.2)
        go_upto_region 9 with fail
        go_cut [88] from 57 to 87 (fun s88 W => s88 = .bool (!lok) ∧ Hid (Below wa.heap.size wa W))
        case first =>
          have HS9 := hd_ (fun (W : World) (h1 : Below wa.heap.size wa W) (h2 : Below v.heap.size v W) => show W.cell? ⟨xb, 0, none⟩ = some (.int .i64 id) ∧ W.cell? ⟨xb, 1, none⟩ = some (.int .i64 ep) ∧ W.cell? ⟨xb, 2, none⟩ = some (.slice P pn pc) ∧ W.cell? ⟨xb, 3, none⟩ = some (.int .i64 se) ∧ W.cell? ⟨w.heap.size, 2, none⟩ = some (.slice (some ⟨b, o, none⟩) n c) from ⟨(HT.out.below h1).at_ 0 rfl, (HT.out.below h1).at_ 1 rfl, (HT.out.below h1).at_ 2 rfl, (HT.out.below h1).at_ 3 rfl, (HXp.out _ h2).at_ 2 rfl⟩)
          cases hpo : Ed.okP id ep ps with
          | false =>
            have HLk := hd_ (show lok = false by rw [HLo.out, hpo]; rfl)
            have HPl := hd_ (HPc.out)
            rw [hpo] at HPl
            clear hpo
            have hS0 := hd_ (HS9.out _ hbd HBd.out)
            refine wp_region_T (fun W => W.cell? ⟨xb, 0, none⟩ = some (.int .i64 id) ∧ W.cell? ⟨xb, 1, none⟩ = some (.int .i64 ep) ∧ W.cell? ⟨xb, 2, none⟩ = some (.slice P pn pc) ∧ W.cell? ⟨xb, 3, none⟩ = some (.int .i64 se) ∧ W.cell? ⟨w.heap.size, 2, none⟩ = some (.slice (some ⟨b, o, none⟩) n c)) (fun W => True) 99 (by kernel_rfl) ?_
            refine tkS (i := 0) hS0.out ?_; try walk_nrm
            refine tkS (i := 1) hS0.out ?_; try walk_nrm
            refine wpAnyT_one (i := 2) (by kernel_rfl) rfl (fun K hK => ?_)
            try walk_nrm
            rw [if_pos (by rfl)]
            go_simp
            refine HPl.out.mono ?_
            rintro e v5 ⟨rfl, hb5⟩
            have HB5 := hd_ (below_next HBd.out hb5)
            have hT5 := (HT.out.below hbd).below hb5
            have hS5 := hd_ (HS9.out _ (below_next hbd hb5) HB5.out)
            refine hK.out _ _ hS5.out (fun _ => trivial) ?_
            clear hK
            try walk_nrm
            refine tkS (i := 3) hS5.out ?_; try walk_nrm
            refine tkS (i := 4) hS5.out ?_; try walk_nrm
            refine tkU (i := 5) hS5.out ?_; try walk_nrm
            refine tkU (i := 6) hS5.out ?_; try walk_nrm
            refine tkU (i := 7) hS5.out ?_; try walk_nrm
            refine tkU (i := 8) hS5.out ?_; try walk_nrm
            refine tkU (i := 9) hS5.out ?_; try walk_nrm
            refine tkU (i := 10) hS5.out ?_; try walk_nrm
            refine tkU (i := 11) hS5.out ?_; try walk_nrm
            refine tkU (i := 12) hS5.out ?_; try walk_nrm
            refine tkS (i := 13) hS5.out ?_; try walk_nrm
            refine tkS (i := 14) hS5.out ?_; try walk_nrm
            refine tkU (i := 15) hS5.out ?_; try walk_nrm
            refine tkU (i := 16) hS5.out ?_; try walk_nrm
            refine tkU (i := 17) hS5.out ?_; try walk_nrm
            refine tkU (i := 18) hS5.out ?_; try walk_nrm
            refine tkU (i := 19) hS5.out ?_; try walk_nrm
            refine tkU (i := 20) hS5.out ?_; try walk_nrm
            refine tkU (i := 21) hS5.out ?_; try walk_nrm
            refine tkU (i := 22) hS5.out ?_; try walk_nrm
            refine tkU (i := 23) hS5.out ?_; try walk_nrm
            refine tkU (i := 24) hS5.out ?_; try walk_nrm
            refine tkU (i := 25) hS5.out ?_; try walk_nrm
            refine tkU (i := 26) hS5.out ?_; try walk_nrm
            refine tkU (i := 27) hS5.out ?_; try walk_nrm
            refine tkU (i := 28) hS5.out ?_; try walk_nrm
            refine tkU (i := 29) hS5.out ?_; try walk_nrm
            refine tkU (i := 30) hS5.out ?_; try walk_nrm
            refine tkS (i := 31) hS5.out ?_; try walk_nrm
            refine wpAnyT_done (by kernel_rfl) ?_ _
            have HBf := hd_ (below_next hbd hb5)
            try clear hge
            try clear hjk hjn hj0 hwj htn
            try clear hz hzn
            go_wp2
            go_meet
            case rel => exact ⟨by rw [HLk.out]; try rfl, HBf⟩
          | true =>
          have HPl := hd_ (HPc.out)
          rw [hpo] at HPl
          rcases Bool.eq_false_or_eq_true opn with hop | hop
          · rw [hop] at HLo
            have HOpv := hd_ hop
            clear hop
            by_cases hk0 : k = 0
            · have hz : ¬ (0 : Int) < (k : Int) := by omega
              have hzn : ¬ 0 < k := by omega
              have HLk := hd_ (show lok = true by rw [HLo.out, hpo, Bool.true_or, HB0.out.2 hk0, decide_eq_true (show (0 : Int) < id by have := (Ed.okP_rng hpo).1; omega)]; rfl)
              clear hpo hk0
              have hS0 := hd_ (HS9.out _ hbd HBd.out)
              refine wp_region_T (fun W => W.cell? ⟨xb, 0, none⟩ = some (.int .i64 id) ∧ W.cell? ⟨xb, 1, none⟩ = some (.int .i64 ep) ∧ W.cell? ⟨xb, 2, none⟩ = some (.slice P pn pc) ∧ W.cell? ⟨xb, 3, none⟩ = some (.int .i64 se) ∧ W.cell? ⟨w.heap.size, 2, none⟩ = some (.slice (some ⟨b, o, none⟩) n c)) (fun W => True) 99 (by kernel_rfl) ?_
              refine tkS (i := 0) hS0.out ?_; try walk_nrm
              refine tkS (i := 1) hS0.out ?_; try walk_nrm
              refine wpAnyT_one (i := 2) (by kernel_rfl) rfl (fun K hK => ?_)
              try walk_nrm
              rw [if_pos (by rfl)]
              go_simp
              refine HPl.out.mono ?_
              rintro e v5 ⟨rfl, hb5⟩
              have HB5 := hd_ (below_next HBd.out hb5)
              have hT5 := (HT.out.below hbd).below hb5
              have hS5 := hd_ (HS9.out _ (below_next hbd hb5) HB5.out)
              refine hK.out _ _ hS5.out (fun _ => trivial) ?_
              clear hK
              try walk_nrm
              refine tkS (i := 3) hS5.out ?_; try walk_nrm
              refine tkS (i := 4) hS5.out ?_; try walk_nrm
              refine tkS (i := 5) hS5.out ?_ (hy := by have hop := HOpv.out; intro W hSW; (try dsimp only at hSW); go_simp; (try with_reducible rfl)); try walk_nrm
              refine tkS (i := 6) hS5.out ?_; try walk_nrm
              refine tkS (i := 7) hS5.out ?_; try walk_nrm
              refine tkU (i := 8) hS5.out ?_; try walk_nrm
              refine tkU (i := 9) hS5.out ?_; try walk_nrm
              refine tkU (i := 10) hS5.out ?_; try walk_nrm
              refine tkU (i := 11) hS5.out ?_; try walk_nrm
              refine tkS (i := 12) hS5.out ?_; try walk_nrm
              refine tkS (i := 13) hS5.out ?_; try walk_nrm
              refine tkS (i := 14) hS5.out ?_; try walk_nrm
              refine tkS (i := 15) hS5.out ?_; try walk_nrm
              refine tkS (i := 16) hS5.out ?_; try walk_nrm
              refine tkS (i := 17) hS5.out ?_; try walk_nrm
              refine tkU (i := 18) hS5.out ?_; try walk_nrm
              refine tkU (i := 19) hS5.out ?_; try walk_nrm
              refine tkU (i := 20) hS5.out ?_; try walk_nrm
              refine tkU (i := 21) hS5.out ?_; try walk_nrm
              refine tkU (i := 22) hS5.out ?_; try walk_nrm
              refine tkU (i := 23) hS5.out ?_; try walk_nrm
              refine tkU (i := 24) hS5.out ?_; try walk_nrm
              refine tkU (i := 25) hS5.out ?_; try walk_nrm
              refine tkU (i := 26) hS5.out ?_; try walk_nrm
              refine tkU (i := 27) hS5.out ?_; try walk_nrm
              refine tkU (i := 28) hS5.out ?_; try walk_nrm
              refine tkU (i := 29) hS5.out ?_; try walk_nrm
              refine tkS (i := 30) hS5.out ?_; try walk_nrm
              refine tkS (i := 31) hS5.out ?_; try walk_nrm
              refine wpAnyT_done (by kernel_rfl) ?_ _
              have HBf := hd_ (below_next hbd hb5)
              try clear hge
              try clear hjk hjn hj0 hwj htn
              try clear hz hzn
              go_wp2
              go_meet
              case rel => exact ⟨by rw [HLk.out]; try rfl, HBf⟩
            · have hz : (0 : Int) < (k : Int) := by omega
              have hzn : 0 < k := by omega
              obtain ⟨j, hj⟩ : ∃ j, k = j + 1 := ⟨k - 1, by omega⟩
              have hjk : (k : Int) - 1 = (j : Int) := by omega
              have hjn : (j : Int) < (n : Int) := by omega
              have hj0 : (0 : Int) ≤ (j : Int) := by omega
              have hwj : IntKind.i64.wrap (j : Int) = (j : Int) := Ed.wrap_nat (by omega)
              have htn : ((j : Int)).toNat = j := rfl
              obtain ⟨yp, hyp⟩ : ∃ yp, L[j]? = some yp := ⟨_, List.getElem?_eq_getElem (by rw [HLl.out]; omega)⟩
              obtain ⟨b3, o3, hAb3, _, _, hcp⟩ := HL1.out.four hyp
              injection hAb3 with hAb3
              injection hAb3 with hb3 ho3
              subst hb3
              subst ho3
              have HBe := hd_ (show Ed.before ((L.map Ed.loOf).map (·.p.id)) k = yp.1.id by rw [hj]; exact Ed.before_succ (by rw [List.getElem?_map, List.getElem?_map, hyp]; rfl))
              obtain ⟨⟨pid, pep, PP, ppn, ppc, pse⟩, pps⟩ := yp
              have HCj := hd_ (fun (W : World) (hW : Below v.heap.size v W) => hcp W hW)
              dsimp only at HCj
              have HS9p := hd_ (fun (W : World) (h1 : Below wa.heap.size wa W) (h2 : Below v.heap.size v W) => show W.cell? ⟨xb, 0, none⟩ = some (.int .i64 id) ∧ W.cell? ⟨xb, 1, none⟩ = some (.int .i64 ep) ∧ W.cell? ⟨xb, 2, none⟩ = some (.slice P pn pc) ∧ W.cell? ⟨xb, 3, none⟩ = some (.int .i64 se) ∧ W.cell? ⟨w.heap.size, 2, none⟩ = some (.slice (some ⟨b, o, none⟩) n c) ∧ W.cell? ⟨b, o + j * 4, none⟩ = some (.int .i64 pid) from ⟨(HT.out.below h1).at_ 0 rfl, (HT.out.below h1).at_ 1 rfl, (HT.out.below h1).at_ 2 rfl, (HT.out.below h1).at_ 3 rfl, (HXp.out _ h2).at_ 2 rfl, (HCj.out _ h2).1⟩)
              clear hyp hcp hj hk0
              cases hlt2 : decide (pid < id) with
              | false =>
                have hge : id ≤ pid := Int.not_lt.1 (of_decide_eq_false hlt2)
                have HLk := hd_ (show lok = false by rw [HLo.out, HBe.out]; show (_ && decide (pid < id)) = false; rw [hlt2, Bool.and_false])
                clear hlt2 hpo
                have hS0 := hd_ (HS9p.out _ hbd HBd.out)
                refine wp_region_T (fun W => W.cell? ⟨xb, 0, none⟩ = some (.int .i64 id) ∧ W.cell? ⟨xb, 1, none⟩ = some (.int .i64 ep) ∧ W.cell? ⟨xb, 2, none⟩ = some (.slice P pn pc) ∧ W.cell? ⟨xb, 3, none⟩ = some (.int .i64 se) ∧ W.cell? ⟨w.heap.size, 2, none⟩ = some (.slice (some ⟨b, o, none⟩) n c) ∧ W.cell? ⟨b, o + j * 4, none⟩ = some (.int .i64 pid)) (fun W => True) 99 (by kernel_rfl) ?_
                refine tkS (i := 0) hS0.out ?_; try walk_nrm
                refine tkS (i := 1) hS0.out ?_; try walk_nrm
                refine wpAnyT_one (i := 2) (by kernel_rfl) rfl (fun K hK => ?_)
                try walk_nrm
                rw [if_pos (by rfl)]
                go_simp
                refine HPl.out.mono ?_
                rintro e v5 ⟨rfl, hb5⟩
                have HB5 := hd_ (below_next HBd.out hb5)
                have hT5 := (HT.out.below hbd).below hb5
                have hS5 := hd_ (HS9p.out _ (below_next hbd hb5) HB5.out)
                refine hK.out _ _ hS5.out (fun _ => trivial) ?_
                clear hK
                try walk_nrm
                refine tkS (i := 3) hS5.out ?_; try walk_nrm
                refine tkS (i := 4) hS5.out ?_; try walk_nrm
                refine tkS (i := 5) hS5.out ?_ (hy := by have hop := HOpv.out; intro W hSW; (try dsimp only at hSW); go_simp; (try with_reducible rfl)); try walk_nrm
                refine tkS (i := 6) hS5.out ?_; try walk_nrm
                refine tkS (i := 7) hS5.out ?_; try walk_nrm
                refine tkU (i := 8) hS5.out ?_; try walk_nrm
                refine tkU (i := 9) hS5.out ?_; try walk_nrm
                refine tkU (i := 10) hS5.out ?_; try walk_nrm
                refine tkU (i := 11) hS5.out ?_; try walk_nrm
                refine tkS (i := 12) hS5.out ?_; try walk_nrm
                refine tkS (i := 13) hS5.out ?_; try walk_nrm
                refine tkS (i := 14) hS5.out ?_; try walk_nrm
                refine tkS (i := 15) hS5.out ?_; try walk_nrm
                refine tkS (i := 16) hS5.out ?_; try walk_nrm
                refine tkS (i := 17) hS5.out ?_; try walk_nrm
                refine tkS (i := 18) hS5.out ?_; try walk_nrm
                refine tkS (i := 19) hS5.out ?_; try walk_nrm
                refine tkS (i := 20) hS5.out ?_; try walk_nrm
                refine tkS (i := 21) hS5.out ?_; try walk_nrm
                refine tkS (i := 22) hS5.out ?_; try walk_nrm
                refine tkS (i := 23) hS5.out ?_; try walk_nrm
                refine tkS (i := 24) hS5.out ?_; try walk_nrm
                refine tkS (i := 25) hS5.out ?_; try walk_nrm
                refine tkS (i := 26) hS5.out ?_; try walk_nrm
                refine tkS (i := 27) hS5.out ?_; try walk_nrm
                refine tkS (i := 28) hS5.out ?_; try walk_nrm
                refine tkS (i := 29) hS5.out ?_; try walk_nrm
                refine tkS (i := 30) hS5.out ?_; try walk_nrm
                refine tkS (i := 31) hS5.out ?_; try walk_nrm
                refine wpAnyT_done (by kernel_rfl) ?_ _
                have HBf := hd_ (below_next hbd hb5)
                try clear hge
                try clear hjk hjn hj0 hwj htn
                try clear hz hzn
                go_wp2
                go_meet
                case rel => exact ⟨by rw [HLk.out]; try rfl, HBf⟩
              | true =>
                have hge : ¬ id ≤ pid := Int.not_le.2 (of_decide_eq_true hlt2)
                have HLk := hd_ (show lok = true by rw [HLo.out, HBe.out, hpo, Bool.true_or]; show (true && decide (pid < id)) = true; rw [hlt2]; rfl)
                clear hlt2 hpo
                have hS0 := hd_ (HS9p.out _ hbd HBd.out)
                refine wp_region_T (fun W => W.cell? ⟨xb, 0, none⟩ = some (.int .i64 id) ∧ W.cell? ⟨xb, 1, none⟩ = some (.int .i64 ep) ∧ W.cell? ⟨xb, 2, none⟩ = some (.slice P pn pc) ∧ W.cell? ⟨xb, 3, none⟩ = some (.int .i64 se) ∧ W.cell? ⟨w.heap.size, 2, none⟩ = some (.slice (some ⟨b, o, none⟩) n c) ∧ W.cell? ⟨b, o + j * 4, none⟩ = some (.int .i64 pid)) (fun W => True) 99 (by kernel_rfl) ?_
                refine tkS (i := 0) hS0.out ?_; try walk_nrm
                refine tkS (i := 1) hS0.out ?_; try walk_nrm
                refine wpAnyT_one (i := 2) (by kernel_rfl) rfl (fun K hK => ?_)
                try walk_nrm
                rw [if_pos (by rfl)]
                go_simp
                refine HPl.out.mono ?_
                rintro e v5 ⟨rfl, hb5⟩
                have HB5 := hd_ (below_next HBd.out hb5)
                have hT5 := (HT.out.below hbd).below hb5
                have hS5 := hd_ (HS9p.out _ (below_next hbd hb5) HB5.out)
                refine hK.out _ _ hS5.out (fun _ => trivial) ?_
                clear hK
                try walk_nrm
                refine tkS (i := 3) hS5.out ?_; try walk_nrm
                refine tkS (i := 4) hS5.out ?_; try walk_nrm
                refine tkS (i := 5) hS5.out ?_ (hy := by have hop := HOpv.out; intro W hSW; (try dsimp only at hSW); go_simp; (try with_reducible rfl)); try walk_nrm
                refine tkS (i := 6) hS5.out ?_; try walk_nrm
                refine tkS (i := 7) hS5.out ?_; try walk_nrm
                refine tkU (i := 8) hS5.out ?_; try walk_nrm
                refine tkU (i := 9) hS5.out ?_; try walk_nrm
                refine tkU (i := 10) hS5.out ?_; try walk_nrm
                refine tkU (i := 11) hS5.out ?_; try walk_nrm
                refine tkS (i := 12) hS5.out ?_; try walk_nrm
                refine tkS (i := 13) hS5.out ?_; try walk_nrm
                refine tkS (i := 14) hS5.out ?_; try walk_nrm
                refine tkS (i := 15) hS5.out ?_; try walk_nrm
                refine tkS (i := 16) hS5.out ?_; try walk_nrm
                refine tkS (i := 17) hS5.out ?_; try walk_nrm
                refine tkS (i := 18) hS5.out ?_; try walk_nrm
                refine tkS (i := 19) hS5.out ?_; try walk_nrm
                refine tkS (i := 20) hS5.out ?_; try walk_nrm
                refine tkS (i := 21) hS5.out ?_; try walk_nrm
                refine tkS (i := 22) hS5.out ?_; try walk_nrm
                refine tkS (i := 23) hS5.out ?_; try walk_nrm
                refine tkS (i := 24) hS5.out ?_; try walk_nrm
                refine tkS (i := 25) hS5.out ?_; try walk_nrm
                refine tkS (i := 26) hS5.out ?_; try walk_nrm
                refine tkS (i := 27) hS5.out ?_; try walk_nrm
                refine tkS (i := 28) hS5.out ?_; try walk_nrm
                refine tkS (i := 29) hS5.out ?_; try walk_nrm
                refine tkS (i := 30) hS5.out ?_; try walk_nrm
                refine tkS (i := 31) hS5.out ?_; try walk_nrm
                refine wpAnyT_done (by kernel_rfl) ?_ _
                have HBf := hd_ (below_next hbd hb5)
                try clear hge
                try clear hjk hjn hj0 hwj htn
                try clear hz hzn
                go_wp2
                go_meet
                case rel => exact ⟨by rw [HLk.out]; try rfl, HBf⟩
          · rw [hop] at HLo
            have HOpv := hd_ hop
            clear hop
            cases hfr : Ed.from_ se 0 1099511627776 with
            | false =>
              have HLk := hd_ (show lok = false by rw [HLo.out, hfr]; simp)
              clear hpo
              have hS0 := hd_ (HS9.out _ hbd HBd.out)
              refine wp_region_T (fun W => W.cell? ⟨xb, 0, none⟩ = some (.int .i64 id) ∧ W.cell? ⟨xb, 1, none⟩ = some (.int .i64 ep) ∧ W.cell? ⟨xb, 2, none⟩ = some (.slice P pn pc) ∧ W.cell? ⟨xb, 3, none⟩ = some (.int .i64 se) ∧ W.cell? ⟨w.heap.size, 2, none⟩ = some (.slice (some ⟨b, o, none⟩) n c)) (fun W => True) 99 (by kernel_rfl) ?_
              refine tkS (i := 0) hS0.out ?_; try walk_nrm
              refine tkS (i := 1) hS0.out ?_; try walk_nrm
              refine wpAnyT_one (i := 2) (by kernel_rfl) rfl (fun K hK => ?_)
              try walk_nrm
              rw [if_pos (by rfl)]
              go_simp
              refine HPl.out.mono ?_
              rintro e v5 ⟨rfl, hb5⟩
              have HB5 := hd_ (below_next HBd.out hb5)
              have hT5 := (HT.out.below hbd).below hb5
              have hS5 := hd_ (HS9.out _ (below_next hbd hb5) HB5.out)
              refine hK.out _ _ hS5.out (fun _ => trivial) ?_
              clear hK
              try walk_nrm
              refine tkS (i := 3) hS5.out ?_; try walk_nrm
              refine tkS (i := 4) hS5.out ?_; try walk_nrm
              refine tkS (i := 5) hS5.out ?_ (hy := by have hop := HOpv.out; intro W hSW; (try dsimp only at hSW); go_simp; (try with_reducible rfl)); try walk_nrm
              refine tkS (i := 6) hS5.out ?_; try walk_nrm
              refine tkS (i := 7) hS5.out ?_; try walk_nrm
              refine tkS (i := 8) hS5.out ?_; try walk_nrm
              refine tkS (i := 9) hS5.out ?_; try walk_nrm
              refine wpAnyT_one (i := 10) (by kernel_rfl) rfl (fun K hK => ?_)
              try walk_nrm
              rw [if_pos (by rfl)]
              go_simp
              refine (from_any se 0 1099511627776 v5).mono ?_
              rintro e v6 ⟨rfl, rfl⟩
              rw [hfr]
              refine hK.out _ _ hS5.out (fun _ => trivial) ?_
              clear hK
              try walk_nrm
              refine tkS (i := 11) hS5.out ?_; try walk_nrm
              refine tkS (i := 12) hS5.out ?_; try walk_nrm
              refine tkS (i := 13) hS5.out ?_; try walk_nrm
              refine tkS (i := 14) hS5.out ?_; try walk_nrm
              refine tkU (i := 15) hS5.out ?_; try walk_nrm
              refine tkU (i := 16) hS5.out ?_; try walk_nrm
              refine tkU (i := 17) hS5.out ?_; try walk_nrm
              refine tkU (i := 18) hS5.out ?_; try walk_nrm
              refine tkU (i := 19) hS5.out ?_; try walk_nrm
              refine tkU (i := 20) hS5.out ?_; try walk_nrm
              refine tkU (i := 21) hS5.out ?_; try walk_nrm
              refine tkU (i := 22) hS5.out ?_; try walk_nrm
              refine tkU (i := 23) hS5.out ?_; try walk_nrm
              refine tkU (i := 24) hS5.out ?_; try walk_nrm
              refine tkU (i := 25) hS5.out ?_; try walk_nrm
              refine tkU (i := 26) hS5.out ?_; try walk_nrm
              refine tkU (i := 27) hS5.out ?_; try walk_nrm
              refine tkU (i := 28) hS5.out ?_; try walk_nrm
              refine tkU (i := 29) hS5.out ?_; try walk_nrm
              refine tkU (i := 30) hS5.out ?_; try walk_nrm
              refine tkS (i := 31) hS5.out ?_; try walk_nrm
              refine wpAnyT_done (by kernel_rfl) ?_ _
              have HBf := hd_ (below_next hbd hb5)
              try clear hge
              try clear hjk hjn hj0 hwj htn
              try clear hz hzn
              go_wp2
              go_meet
              case rel => exact ⟨by rw [HLk.out]; try rfl, HBf⟩
            | true =>
            by_cases hk0 : k = 0
            · have hz : ¬ (0 : Int) < (k : Int) := by omega
              have hzn : ¬ 0 < k := by omega
              have HLk := hd_ (show lok = true by rw [HLo.out, hpo, hfr, Bool.or_true, HB0.out.2 hk0, decide_eq_true (show (0 : Int) < id by have := (Ed.okP_rng hpo).1; omega)]; rfl)
              clear hpo hk0
              have hS0 := hd_ (HS9.out _ hbd HBd.out)
              refine wp_region_T (fun W => W.cell? ⟨xb, 0, none⟩ = some (.int .i64 id) ∧ W.cell? ⟨xb, 1, none⟩ = some (.int .i64 ep) ∧ W.cell? ⟨xb, 2, none⟩ = some (.slice P pn pc) ∧ W.cell? ⟨xb, 3, none⟩ = some (.int .i64 se) ∧ W.cell? ⟨w.heap.size, 2, none⟩ = some (.slice (some ⟨b, o, none⟩) n c)) (fun W => True) 99 (by kernel_rfl) ?_
              refine tkS (i := 0) hS0.out ?_; try walk_nrm
              refine tkS (i := 1) hS0.out ?_; try walk_nrm
              refine wpAnyT_one (i := 2) (by kernel_rfl) rfl (fun K hK => ?_)
              try walk_nrm
              rw [if_pos (by rfl)]
              go_simp
              refine HPl.out.mono ?_
              rintro e v5 ⟨rfl, hb5⟩
              have HB5 := hd_ (below_next HBd.out hb5)
              have hT5 := (HT.out.below hbd).below hb5
              have hS5 := hd_ (HS9.out _ (below_next hbd hb5) HB5.out)
              refine hK.out _ _ hS5.out (fun _ => trivial) ?_
              clear hK
              try walk_nrm
              refine tkS (i := 3) hS5.out ?_; try walk_nrm
              refine tkS (i := 4) hS5.out ?_; try walk_nrm
              refine tkS (i := 5) hS5.out ?_ (hy := by have hop := HOpv.out; intro W hSW; (try dsimp only at hSW); go_simp; (try with_reducible rfl)); try walk_nrm
              refine tkS (i := 6) hS5.out ?_; try walk_nrm
              refine tkS (i := 7) hS5.out ?_; try walk_nrm
              refine tkS (i := 8) hS5.out ?_; try walk_nrm
              refine tkS (i := 9) hS5.out ?_; try walk_nrm
              refine wpAnyT_one (i := 10) (by kernel_rfl) rfl (fun K hK => ?_)
              try walk_nrm
              rw [if_pos (by rfl)]
              go_simp
              refine (from_any se 0 1099511627776 v5).mono ?_
              rintro e v6 ⟨rfl, rfl⟩
              rw [hfr]
              refine hK.out _ _ hS5.out (fun _ => trivial) ?_
              clear hK
              try walk_nrm
              refine tkS (i := 11) hS5.out ?_; try walk_nrm
              refine tkS (i := 12) hS5.out ?_; try walk_nrm
              refine tkS (i := 13) hS5.out ?_; try walk_nrm
              refine tkS (i := 14) hS5.out ?_; try walk_nrm
              refine tkS (i := 15) hS5.out ?_; try walk_nrm
              refine tkS (i := 16) hS5.out ?_; try walk_nrm
              refine tkS (i := 17) hS5.out ?_; try walk_nrm
              refine tkU (i := 18) hS5.out ?_; try walk_nrm
              refine tkU (i := 19) hS5.out ?_; try walk_nrm
              refine tkU (i := 20) hS5.out ?_; try walk_nrm
              refine tkU (i := 21) hS5.out ?_; try walk_nrm
              refine tkU (i := 22) hS5.out ?_; try walk_nrm
              refine tkU (i := 23) hS5.out ?_; try walk_nrm
              refine tkU (i := 24) hS5.out ?_; try walk_nrm
              refine tkU (i := 25) hS5.out ?_; try walk_nrm
              refine tkU (i := 26) hS5.out ?_; try walk_nrm
              refine tkU (i := 27) hS5.out ?_; try walk_nrm
              refine tkU (i := 28) hS5.out ?_; try walk_nrm
              refine tkU (i := 29) hS5.out ?_; try walk_nrm
              refine tkS (i := 30) hS5.out ?_; try walk_nrm
              refine tkS (i := 31) hS5.out ?_; try walk_nrm
              refine wpAnyT_done (by kernel_rfl) ?_ _
              have HBf := hd_ (below_next hbd hb5)
              try clear hge
              try clear hjk hjn hj0 hwj htn
              try clear hz hzn
              go_wp2
              go_meet
              case rel => exact ⟨by rw [HLk.out]; try rfl, HBf⟩
            · have hz : (0 : Int) < (k : Int) := by omega
              have hzn : 0 < k := by omega
              obtain ⟨j, hj⟩ : ∃ j, k = j + 1 := ⟨k - 1, by omega⟩
              have hjk : (k : Int) - 1 = (j : Int) := by omega
              have hjn : (j : Int) < (n : Int) := by omega
              have hj0 : (0 : Int) ≤ (j : Int) := by omega
              have hwj : IntKind.i64.wrap (j : Int) = (j : Int) := Ed.wrap_nat (by omega)
              have htn : ((j : Int)).toNat = j := rfl
              obtain ⟨yp, hyp⟩ : ∃ yp, L[j]? = some yp := ⟨_, List.getElem?_eq_getElem (by rw [HLl.out]; omega)⟩
              obtain ⟨b3, o3, hAb3, _, _, hcp⟩ := HL1.out.four hyp
              injection hAb3 with hAb3
              injection hAb3 with hb3 ho3
              subst hb3
              subst ho3
              have HBe := hd_ (show Ed.before ((L.map Ed.loOf).map (·.p.id)) k = yp.1.id by rw [hj]; exact Ed.before_succ (by rw [List.getElem?_map, List.getElem?_map, hyp]; rfl))
              obtain ⟨⟨pid, pep, PP, ppn, ppc, pse⟩, pps⟩ := yp
              have HCj := hd_ (fun (W : World) (hW : Below v.heap.size v W) => hcp W hW)
              dsimp only at HCj
              have HS9p := hd_ (fun (W : World) (h1 : Below wa.heap.size wa W) (h2 : Below v.heap.size v W) => show W.cell? ⟨xb, 0, none⟩ = some (.int .i64 id) ∧ W.cell? ⟨xb, 1, none⟩ = some (.int .i64 ep) ∧ W.cell? ⟨xb, 2, none⟩ = some (.slice P pn pc) ∧ W.cell? ⟨xb, 3, none⟩ = some (.int .i64 se) ∧ W.cell? ⟨w.heap.size, 2, none⟩ = some (.slice (some ⟨b, o, none⟩) n c) ∧ W.cell? ⟨b, o + j * 4, none⟩ = some (.int .i64 pid) from ⟨(HT.out.below h1).at_ 0 rfl, (HT.out.below h1).at_ 1 rfl, (HT.out.below h1).at_ 2 rfl, (HT.out.below h1).at_ 3 rfl, (HXp.out _ h2).at_ 2 rfl, (HCj.out _ h2).1⟩)
              clear hyp hcp hj hk0
              cases hlt2 : decide (pid < id) with
              | false =>
                have hge : id ≤ pid := Int.not_lt.1 (of_decide_eq_false hlt2)
                have HLk := hd_ (show lok = false by rw [HLo.out, HBe.out]; show (_ && decide (pid < id)) = false; rw [hlt2, Bool.and_false])
                clear hlt2 hpo
                have hS0 := hd_ (HS9p.out _ hbd HBd.out)
                refine wp_region_T (fun W => W.cell? ⟨xb, 0, none⟩ = some (.int .i64 id) ∧ W.cell? ⟨xb, 1, none⟩ = some (.int .i64 ep) ∧ W.cell? ⟨xb, 2, none⟩ = some (.slice P pn pc) ∧ W.cell? ⟨xb, 3, none⟩ = some (.int .i64 se) ∧ W.cell? ⟨w.heap.size, 2, none⟩ = some (.slice (some ⟨b, o, none⟩) n c) ∧ W.cell? ⟨b, o + j * 4, none⟩ = some (.int .i64 pid)) (fun W => True) 99 (by kernel_rfl) ?_
                refine tkS (i := 0) hS0.out ?_; try walk_nrm
                refine tkS (i := 1) hS0.out ?_; try walk_nrm
                refine wpAnyT_one (i := 2) (by kernel_rfl) rfl (fun K hK => ?_)
                try walk_nrm
                rw [if_pos (by rfl)]
                go_simp
                refine HPl.out.mono ?_
                rintro e v5 ⟨rfl, hb5⟩
                have HB5 := hd_ (below_next HBd.out hb5)
                have hT5 := (HT.out.below hbd).below hb5
                have hS5 := hd_ (HS9p.out _ (below_next hbd hb5) HB5.out)
                refine hK.out _ _ hS5.out (fun _ => trivial) ?_
                clear hK
                try walk_nrm
                refine tkS (i := 3) hS5.out ?_; try walk_nrm
                refine tkS (i := 4) hS5.out ?_; try walk_nrm
                refine tkS (i := 5) hS5.out ?_ (hy := by have hop := HOpv.out; intro W hSW; (try dsimp only at hSW); go_simp; (try with_reducible rfl)); try walk_nrm
                refine tkS (i := 6) hS5.out ?_; try walk_nrm
                refine tkS (i := 7) hS5.out ?_; try walk_nrm
                refine tkS (i := 8) hS5.out ?_; try walk_nrm
                refine tkS (i := 9) hS5.out ?_; try walk_nrm
                refine wpAnyT_one (i := 10) (by kernel_rfl) rfl (fun K hK => ?_)
                try walk_nrm
                rw [if_pos (by rfl)]
                go_simp
                refine (from_any se 0 1099511627776 v5).mono ?_
                rintro e v6 ⟨rfl, rfl⟩
                rw [hfr]
                refine hK.out _ _ hS5.out (fun _ => trivial) ?_
                clear hK
                try walk_nrm
                refine tkS (i := 11) hS5.out ?_; try walk_nrm
                refine tkS (i := 12) hS5.out ?_; try walk_nrm
                refine tkS (i := 13) hS5.out ?_; try walk_nrm
                refine tkS (i := 14) hS5.out ?_; try walk_nrm
                refine tkS (i := 15) hS5.out ?_; try walk_nrm
                refine tkS (i := 16) hS5.out ?_; try walk_nrm
                refine tkS (i := 17) hS5.out ?_; try walk_nrm
                refine tkS (i := 18) hS5.out ?_; try walk_nrm
                refine tkS (i := 19) hS5.out ?_; try walk_nrm
                refine tkS (i := 20) hS5.out ?_; try walk_nrm
                refine tkS (i := 21) hS5.out ?_; try walk_nrm
                refine tkS (i := 22) hS5.out ?_; try walk_nrm
                refine tkS (i := 23) hS5.out ?_; try walk_nrm
                refine tkS (i := 24) hS5.out ?_; try walk_nrm
                refine tkS (i := 25) hS5.out ?_; try walk_nrm
                refine tkS (i := 26) hS5.out ?_; try walk_nrm
                refine tkS (i := 27) hS5.out ?_; try walk_nrm
                refine tkS (i := 28) hS5.out ?_; try walk_nrm
                refine tkS (i := 29) hS5.out ?_; try walk_nrm
                refine tkS (i := 30) hS5.out ?_; try walk_nrm
                refine tkS (i := 31) hS5.out ?_; try walk_nrm
                refine wpAnyT_done (by kernel_rfl) ?_ _
                have HBf := hd_ (below_next hbd hb5)
                try clear hge
                try clear hjk hjn hj0 hwj htn
                try clear hz hzn
                go_wp2
                go_meet
                case rel => exact ⟨by rw [HLk.out]; try rfl, HBf⟩
              | true =>
                have hge : ¬ id ≤ pid := Int.not_le.2 (of_decide_eq_true hlt2)
                have HLk := hd_ (show lok = true by rw [HLo.out, HBe.out, hpo, hfr, Bool.or_true]; show (true && decide (pid < id)) = true; rw [hlt2]; rfl)
                clear hlt2 hpo
                have hS0 := hd_ (HS9p.out _ hbd HBd.out)
                refine wp_region_T (fun W => W.cell? ⟨xb, 0, none⟩ = some (.int .i64 id) ∧ W.cell? ⟨xb, 1, none⟩ = some (.int .i64 ep) ∧ W.cell? ⟨xb, 2, none⟩ = some (.slice P pn pc) ∧ W.cell? ⟨xb, 3, none⟩ = some (.int .i64 se) ∧ W.cell? ⟨w.heap.size, 2, none⟩ = some (.slice (some ⟨b, o, none⟩) n c) ∧ W.cell? ⟨b, o + j * 4, none⟩ = some (.int .i64 pid)) (fun W => True) 99 (by kernel_rfl) ?_
                refine tkS (i := 0) hS0.out ?_; try walk_nrm
                refine tkS (i := 1) hS0.out ?_; try walk_nrm
                refine wpAnyT_one (i := 2) (by kernel_rfl) rfl (fun K hK => ?_)
                try walk_nrm
                rw [if_pos (by rfl)]
                go_simp
                refine HPl.out.mono ?_
                rintro e v5 ⟨rfl, hb5⟩
                have HB5 := hd_ (below_next HBd.out hb5)
                have hT5 := (HT.out.below hbd).below hb5
                have hS5 := hd_ (HS9p.out _ (below_next hbd hb5) HB5.out)
                refine hK.out _ _ hS5.out (fun _ => trivial) ?_
                clear hK
                try walk_nrm
                refine tkS (i := 3) hS5.out ?_; try walk_nrm
                refine tkS (i := 4) hS5.out ?_; try walk_nrm
                refine tkS (i := 5) hS5.out ?_ (hy := by have hop := HOpv.out; intro W hSW; (try dsimp only at hSW); go_simp; (try with_reducible rfl)); try walk_nrm
                refine tkS (i := 6) hS5.out ?_; try walk_nrm
                refine tkS (i := 7) hS5.out ?_; try walk_nrm
                refine tkS (i := 8) hS5.out ?_; try walk_nrm
                refine tkS (i := 9) hS5.out ?_; try walk_nrm
                refine wpAnyT_one (i := 10) (by kernel_rfl) rfl (fun K hK => ?_)
                try walk_nrm
                rw [if_pos (by rfl)]
                go_simp
                refine (from_any se 0 1099511627776 v5).mono ?_
                rintro e v6 ⟨rfl, rfl⟩
                rw [hfr]
                refine hK.out _ _ hS5.out (fun _ => trivial) ?_
                clear hK
                try walk_nrm
                refine tkS (i := 11) hS5.out ?_; try walk_nrm
                refine tkS (i := 12) hS5.out ?_; try walk_nrm
                refine tkS (i := 13) hS5.out ?_; try walk_nrm
                refine tkS (i := 14) hS5.out ?_; try walk_nrm
                refine tkS (i := 15) hS5.out ?_; try walk_nrm
                refine tkS (i := 16) hS5.out ?_; try walk_nrm
                refine tkS (i := 17) hS5.out ?_; try walk_nrm
                refine tkS (i := 18) hS5.out ?_; try walk_nrm
                refine tkS (i := 19) hS5.out ?_; try walk_nrm
                refine tkS (i := 20) hS5.out ?_; try walk_nrm
                refine tkS (i := 21) hS5.out ?_; try walk_nrm
                refine tkS (i := 22) hS5.out ?_; try walk_nrm
                refine tkS (i := 23) hS5.out ?_; try walk_nrm
                refine tkS (i := 24) hS5.out ?_; try walk_nrm
                refine tkS (i := 25) hS5.out ?_; try walk_nrm
                refine tkS (i := 26) hS5.out ?_; try walk_nrm
                refine tkS (i := 27) hS5.out ?_; try walk_nrm
                refine tkS (i := 28) hS5.out ?_; try walk_nrm
                refine tkS (i := 29) hS5.out ?_; try walk_nrm
                refine tkS (i := 30) hS5.out ?_; try walk_nrm
                refine tkS (i := 31) hS5.out ?_; try walk_nrm
                refine wpAnyT_done (by kernel_rfl) ?_ _
                have HBf := hd_ (below_next hbd hb5)
                try clear hge
                try clear hjk hjn hj0 hwj htn
                try clear hz hzn
                go_wp2
                go_meet
                case rel => exact ⟨by rw [HLk.out]; try rfl, HBf⟩
        case rest =>
          obtain ⟨rfl, HW9⟩ := hcut
          rename World => w9
          have HB9 := hd_ (below_next HBa.out HW9.out)
          cases lok with
          | false =>
            have HF := hd_ (show false = ans by rw [HA.out, Ed.no_ls (i := k) (by dsimp only; rw [List.length_map, HLl.out]; exact hlt) HLk0.out.symm])
            go_wp2
            go_ret
            exact ⟨by rw [← HF.out]; rfl, below_next HBu.out HB9.out⟩
          | true =>
            have hpk := HLo.out.symm
            simp only [Bool.and_eq_true] at hpk
            have HPk := hd_ (Ed.okP_rng hpk.1.1)
            have hpn : pn ≤ 64 := by have h1 := HPx.out.1.1; have h2 := HPk.out.2.1; omega
            have hal2 : al.length + (Ed.fl ps).length ≤ 128 * (k + 1) := by have h2 := HPk.out.2.1; rw [Ed.fl_len]; omega
            have hT9 := HT.out.below HW9.out
            have hR9 := HRa.out.below HW9.out
            have hbd9 : Below w9.heap.size w9 w9.drew := (Below.refl _ _).drew
            have hvw : v.heap.size ≤ w9.heap.size := HB9.out.size
            clear hpk
            go_upto_region 11 with fail
            have hS0 := hd_ (show w9.drew.cell? ⟨xb, 0, none⟩ = some (.int .i64 id) ∧ w9.drew.cell? ⟨xb, 1, none⟩ = some (.int .i64 ep) ∧ w9.drew.cell? ⟨xb, 2, none⟩ = some (.slice P pn pc) from ⟨(hT9.below hbd9).at_ 0 rfl, (hT9.below hbd9).at_ 1 rfl, (hT9.below hbd9).at_ 2 rfl⟩)
            refine wp_region_T (fun W => W.cell? ⟨xb, 0, none⟩ = some (.int .i64 id) ∧ W.cell? ⟨xb, 1, none⟩ = some (.int .i64 ep) ∧ W.cell? ⟨xb, 2, none⟩ = some (.slice P pn pc)) (fun W => True) 99 (by kernel_rfl) ?_
            refine tkS (i := 0) hS0.out ?_; try walk_nrm
            refine tkS (i := 1) hS0.out ?_; try walk_nrm
            refine tkS (i := 2) hS0.out ?_; try walk_nrm
            refine tkS (i := 3) hS0.out ?_; try walk_nrm
            refine tkS (i := 6) hS0.out ?_; try walk_nrm
            refine tkS (i := 7) hS0.out ?_; try walk_nrm
            refine tkS (i := 8) hS0.out ?_; try walk_nrm
            refine wpAnyT_one (i := 4) (by kernel_rfl) rfl (fun K hK => ?_)
            try walk_nrm
            rw [if_pos (by rfl)]
            go_simp
            have hn1 : Below w9.heap.size w9 (w9.drew.alloc (.cells #[.int .i64 id] 3)) := hbd9.alloc hbd9.size _
            have hS1 := hd_ (show (w9.drew.alloc (.cells #[.int .i64 id] 3)).cell? ⟨xb, 0, none⟩ = some (.int .i64 id) ∧ (w9.drew.alloc (.cells #[.int .i64 id] 3)).cell? ⟨xb, 1, none⟩ = some (.int .i64 ep) ∧ (w9.drew.alloc (.cells #[.int .i64 id] 3)).cell? ⟨xb, 2, none⟩ = some (.slice P pn pc) from ⟨(hT9.below hn1).at_ 0 rfl, (hT9.below hn1).at_ 1 rfl, (hT9.below hn1).at_ 2 rfl⟩)
            refine hK.out _ _ hS1.out (fun _ => trivial) ?_
            clear hK
            try walk_nrm
            refine wpAnyT_one (i := 5) (by kernel_rfl) rfl (fun K hK => ?_)
            have hR1 := hR9.below hn1
            have hlit := Ed.rdi_lit w9.drew [id] 3
            have hb1 := Nat.le_trans hvw hn1.size
            refine step_appN manyI (by rfl) 94 rfl (.tmp 89) (.tmp 93) rfl rfl hR1.ol (some ⟨w9.heap.size, 0, none⟩) 1 1 (Pk.iv [id]) (Pk.iv_one [id]) rfl hlit.2 (by omega) hb1 ?_
            intro R4 c4 v4 hg4
            have hT4 := (hT9.below hn1).grown hg4.grew (fun e => by have := HRl.out.1 _ e; omega)
            have hR4 := hR1.first hg4
            have HB4x := hd_ (hg4.below (below_next HB9.out hn1) hb1 (fun g h => (hR1.ol.blk g h).1))
            have hS4 := hd_ (show v4.cell? ⟨xb, 0, none⟩ = some (.int .i64 id) ∧ v4.cell? ⟨xb, 1, none⟩ = some (.int .i64 ep) ∧ v4.cell? ⟨xb, 2, none⟩ = some (.slice P pn pc) from ⟨(hT4).at_ 0 rfl, (hT4).at_ 1 rfl, (hT4).at_ 2 rfl⟩)
            have hv4 := HB4x.out.size
            refine hK.out _ _ hS4.out (fun _ => trivial) ?_
            clear hK
            try walk_nrm
            refine wpAnyT_one (i := 9) (by kernel_rfl) rfl (fun K hK => ?_)
            try walk_nrm
            rw [if_pos (by rfl)]
            go_simp
            refine (plots_any id ep P pn pc ps v4 (HPv.out v4 HB4x.out) (by omega)).mono ?_
            rintro e v5 ⟨B5, c5, rfl, hO5, hb5⟩
            have hS5 := hd_ (show v5.cell? ⟨xb, 0, none⟩ = some (.int .i64 id) ∧ v5.cell? ⟨xb, 1, none⟩ = some (.int .i64 ep) ∧ v5.cell? ⟨xb, 2, none⟩ = some (.slice P pn pc) from ⟨(hT4.below hb5).at_ 0 rfl, (hT4.below hb5).at_ 1 rfl, (hT4.below hb5).at_ 2 rfl⟩)
            have hR5 := hR4.below hb5
            have HB5 := hd_ (below_next HB4x.out hb5)
            have hv5 := HB5.out.size
            refine hK.out _ _ hS5.out (fun _ => trivial) ?_
            clear hK
            try walk_nrm
            refine wpAnyT_one (i := 10) (by kernel_rfl) rfl (fun K hK => ?_)
            refine step_appN manyI (by rfl) 99 rfl (.tmp 95) (.tmp 98) rfl rfl hR5.ot B5 (Ed.fl ps).length c5 (Pk.iv (Ed.fl ps)) (Pk.iv_one _) rfl hO5.rd (by omega) hv5 ?_
            intro T6 c6 v6 hg6
            have hT6 := (hT4.below hb5).grown hg6.grew (fun e => by have := HRl.out.2 _ e; omega)
            have HR6 := hd_ (hR5.second hg6)
            have HB6 := hd_ (hg6.below HB5.out hv5 (fun g h => (hR5.ot.blk g h).1))
            have hS6 := hd_ (show v6.cell? ⟨xb, 0, none⟩ = some (.int .i64 id) ∧ v6.cell? ⟨xb, 1, none⟩ = some (.int .i64 ep) ∧ v6.cell? ⟨xb, 2, none⟩ = some (.slice P pn pc) from ⟨(hT6).at_ 0 rfl, (hT6).at_ 1 rfl, (hT6).at_ 2 rfl⟩)
            refine hK.out _ _ hS6.out (fun _ => trivial) ?_
            clear hK
            try walk_nrm
            refine tkS (i := 11) hS6.out ?_; try walk_nrm
            refine tkS (i := 12) hS6.out ?_; try walk_nrm
            refine wpAnyT_done (by kernel_rfl) ?_ _
            have HOk1 := hd_ (Ed.upto_next HOk.out HLk0.out.symm)
            rw [show (L.take k).map (·.1.id) ++ [id] = (L.take (k + 1)).map (·.1.id) by rw [List.take_add_one, HY.out]; simp] at HR6
            rw [← List.length_append] at HR6
            go_wp2_with fail
            go_roundw
            case rel => exact ⟨k + 1, R4, c4, T6, c6, al ++ Ed.fl ps, by omega, rfl, by rw [List.length_append], by go_num, hd_ (by rw [HAl.out]; unfold Ed.plK; rw [List.take_add_one, HY.out]; simp), by rw [List.length_append]; exact hal2, HR6, HOk1, HB6⟩
            case measure => simp [intOf]; omega
    · have hki : ¬ (k : Int) < (n : Int) := by omega
      have hkn : k = n := by omega
      have HLs := hd_ (show Ed.okLs (L.map Ed.loOf) = true from Ed.okLs_yes (fun i hi => HOk.out i (by rw [List.length_map, HLl.out] at hi; omega)))
      have hal0 : al.length ≤ 128 * n := by rw [← hkn]; exact hal
      have HAl0 := hd_ (show al = Ed.plK L by rw [HAl.out, List.take_of_length_le (by rw [HLl.out]; omega)])
      have HRw0 := hd_ (show TwoR v.heap.size wr R (n + 0) rc (L.map (·.1.id) ++ []) T al.length tc al from by
        have h := HRw.out
        rw [List.take_of_length_le (by rw [HLl.out]; omega), hkn] at h
        rw [List.append_nil]
        exact h)
      obtain ⟨al0, hae⟩ : ∃ a0, a0 = al := ⟨_, rfl⟩
      have HAl1 := hd_ (show al0 = Ed.plK L by rw [hae, HAl0.out])
      have HB00 := HB
      clear hlt HOk HAl HRw hal
      go_wp2_with fail
      clear x2 x3 hki
      go_loopw [3, 4, 8] (fun s3 s4 s8 wr => ∃ (k : Nat) (R : Option Addr) (rc : Nat) (T : Option Addr) (tc : Nat) (al : List Int), k ≤ m ∧ s3 = .slice R (n + k) rc ∧ s4 = .slice T al.length tc ∧ s8 = .int .i64 (k : Int) ∧ Hid (al = al0 ++ Ed.plT (M.take k)) ∧ al.length ≤ 128 * (n + k) ∧ Hid (TwoR v.heap.size wr R (n + k) rc (L.map (·.1.id) ++ (M.take k).map (·.1.id)) T al.length tc al) ∧ Hid (∀ i, i < k → Ed.tokAt sq (M.map Ed.taOf) i = true) ∧ Hid (∀ (i j : Nat) (a b : Ed.Ta), i < k → j < i → (M.map Ed.taOf)[i]? = some a → (M.map Ed.taOf)[j]? = some b → Ed.clash a b = false) ∧ Hid (Below v.heap.size v wr)) (fun _ _ s8 _ => m - (intOf s8).toNat)
      case atStart => exact ⟨0, R, rc, T, tc, al, by omega, (by first | rfl | (rw [hkn]; rfl)), rfl, rfl, hd_ (by rw [hae]; simp [Ed.plT]), by omega, HRw0, hd_ (fun i hi => by omega), hd_ (fun i j a b hi => by omega), HB00⟩
      case round =>
        clear HRw0 HB00 HB hae hal0
        obtain ⟨k, R, rc, T, tc, al, hk, rfl, rfl, rfl, HAl, hal, HRw, HOk, HCl, HB⟩ := hrel
        have x3 := (HXp.out _ HB.out).at_ 3 rfl
        by_cases hlt : k < m
        · have hki : (k : Int) < (m : Int) := by omega
          have hk0 : (0 : Int) ≤ (k : Int) := by omega
          obtain ⟨y, hy⟩ : ∃ y, M[k]? = some y := ⟨_, List.getElem?_eq_getElem (by rw [HMl.out]; exact hlt)⟩
          have HY := hd_ hy
          obtain ⟨b, o, hAb, _, hp, hc⟩ := HM1.out.nine hy
          have HFt := hd_ (HM1.out.1.2.2 y.1 (List.mem_map.2 ⟨y, List.mem_of_getElem? hy, rfl⟩))
          have HLo0 := hd_ (Ed.tokAt_eq (s := sq) (L := M.map Ed.taOf) (i := k) (t := Ed.taOf y) (by rw [List.getElem?_map, hy]; rfl))
          subst hAb
          obtain ⟨⟨id, ep, P, pn, pc, sz, lv, ct, lo, hi, tp⟩, ps⟩ := y
          obtain ⟨e0, e1, e2, e3, e4, e5, e6, e7, e8⟩ := hc wr HB.out
          dsimp only at e0 e1 e2 e3 e4 e5 e6 e7 e8 hp
          clear hy hc
          obtain ⟨okt, hokt⟩ : ∃ o, o = Ed.okT ⟨id, ep, P, pn, pc, sz, lv, ct, lo, hi, tp⟩ ps := ⟨_, rfl⟩
          obtain ⟨lok, hlok⟩ : ∃ l, l = Ed.tokAt sq (M.map Ed.taOf) k := ⟨_, rfl⟩
          have HLo := hd_ (show lok = (okt && decide (tp ≤ sq) && decide (Ed.before ((M.map Ed.taOf).map (·.p.id)) k < id)) by rw [hlok, HLo0.out, hokt]; rfl)
          have HLk0 := hd_ hlok
          have HOt := hd_ hokt
          have HB0 := hd_ (show True ∧ (k = 0 → decide (Ed.before ((M.map Ed.taOf).map (·.p.id)) k < id) = decide (0 < id)) from ⟨trivial, fun h => by rw [h]; rfl⟩)
          clear hlok hokt HLo0
          have hal1 : Below wr.heap.size wr (wr.alloc (.cells #[.int .i64 id, .int .i64 ep, .slice P pn pc, .int .i64 sz, .int .i64 lv, .int .i64 ct, .string lo, .string hi, .int .i64 tp] 35)) := (Below.refl _ _).alloc (Nat.le_refl _) _
          have HT := hd_ (Holds.new wr #[.int .i64 id, .int .i64 ep, .slice P pn pc, .int .i64 sz, .int .i64 lv, .int .i64 ct, .string lo, .string hi, .int .i64 tp] 35)
          have HRa := hd_ (HRw.out.below hal1)
          have HBa := hd_ (below_next HB.out hal1)
          have HPx := hd_ (hp.below HBa.out)
          have HPv := hd_ (fun (W : World) (hW : Below v.heap.size v W) => (hp.below hW).1)
          have HRl := hd_ (And.intro (fun (g : Nat) (hg : (Value.slice R (n + k) rc).ownBlock = some g) => (HRw.out.ol.blk g hg).2) (fun (g : Nat) (hg : (Value.slice T al.length tc).ownBlock = some g) => (HRw.out.ot.blk g hg).2))
          have hbx : v.heap.size ≤ wr.heap.size := HB.out.size
          go_upto_region 16 with fail
          clear e0 e1 e2 e3 e4 e5 e6 e7 e8 x3 HRw HB hal1 hp
          generalize (wr.alloc (.cells #[.int .i64 id, .int .i64 ep, .slice P pn pc, .int .i64 sz, .int .i64 lv, .int .i64 ct, .string lo, .string hi, .int .i64 tp] 35)) = wa at *
          generalize wr.heap.size = xb at *
          replace HT : Hid (Holds wa xb [.int .i64 id, .int .i64 ep, .slice P pn pc, .int .i64 sz, .int .i64 lv, .int .i64 ct, .string lo, .string hi, .int .i64 tp]) := HT
          have hbd : Below wa.heap.size wa wa.drew := (Below.refl _ _).drew
          have HBd := hd_ (below_next HBa.out hbd)
          have HPc := hd_ (ristable_any ⟨id, ep, P, pn, pc, sz, lv, ct, lo, hi, tp⟩ ps wa.drew (HPx.out.below hbd).1 HFt.out HPx.out.2.2)
          rw [← HOt.out] at HPc
          go_cut [139] from 112 to 138 (fun s139 W => s139 = .bool (!lok) ∧ Hid (Below wa.heap.size wa W))
          case first =>
            have HS16 := hd_ (fun (W : World) (h1 : Below wa.heap.size wa W) (h2 : Below v.heap.size v W) => show W.cell? ⟨xb, 0, none⟩ = some (.int .i64 id) ∧ W.cell? ⟨xb, 1, none⟩ = some (.int .i64 ep) ∧ W.cell? ⟨xb, 2, none⟩ = some (.slice P pn pc) ∧ W.cell? ⟨xb, 3, none⟩ = some (.int .i64 sz) ∧ W.cell? ⟨xb, 4, none⟩ = some (.int .i64 lv) ∧ W.cell? ⟨xb, 5, none⟩ = some (.int .i64 ct) ∧ W.cell? ⟨xb, 6, none⟩ = some (.string lo) ∧ W.cell? ⟨xb, 7, none⟩ = some (.string hi) ∧ W.cell? ⟨xb, 8, none⟩ = some (.int .i64 tp) ∧ W.cell? ⟨w.heap.size, 1, none⟩ = some (.int .i64 sq) ∧ W.cell? ⟨w.heap.size, 3, none⟩ = some (.slice (some ⟨b, o, none⟩) m d) from ⟨(HT.out.below h1).at_ 0 rfl, (HT.out.below h1).at_ 1 rfl, (HT.out.below h1).at_ 2 rfl, (HT.out.below h1).at_ 3 rfl, (HT.out.below h1).at_ 4 rfl, (HT.out.below h1).at_ 5 rfl, (HT.out.below h1).at_ 6 rfl, (HT.out.below h1).at_ 7 rfl, (HT.out.below h1).at_ 8 rfl, (HXp.out _ h2).at_ 1 rfl, (HXp.out _ h2).at_ 3 rfl⟩)
            cases okt with
            | false =>
              have HLk := hd_ (show lok = false by rw [HLo.out]; rfl)
              have hS0 := hd_ (HS16.out _ hbd HBd.out)
              refine wp_region_T (fun W => W.cell? ⟨xb, 0, none⟩ = some (.int .i64 id) ∧ W.cell? ⟨xb, 1, none⟩ = some (.int .i64 ep) ∧ W.cell? ⟨xb, 2, none⟩ = some (.slice P pn pc) ∧ W.cell? ⟨xb, 3, none⟩ = some (.int .i64 sz) ∧ W.cell? ⟨xb, 4, none⟩ = some (.int .i64 lv) ∧ W.cell? ⟨xb, 5, none⟩ = some (.int .i64 ct) ∧ W.cell? ⟨xb, 6, none⟩ = some (.string lo) ∧ W.cell? ⟨xb, 7, none⟩ = some (.string hi) ∧ W.cell? ⟨xb, 8, none⟩ = some (.int .i64 tp) ∧ W.cell? ⟨w.heap.size, 1, none⟩ = some (.int .i64 sq) ∧ W.cell? ⟨w.heap.size, 3, none⟩ = some (.slice (some ⟨b, o, none⟩) m d)) (fun W => True) 99 (by kernel_rfl) ?_
              refine tkS (i := 0) hS0.out ?_; try walk_nrm
              refine wpAnyT_one (i := 1) (by kernel_rfl) rfl (fun K hK => ?_)
              try walk_nrm
              rw [if_pos (by rfl)]
              go_simp
              refine HPc.out.mono ?_
              rintro e v5 ⟨rfl, hb5⟩
              have HB5 := hd_ (below_next HBd.out hb5)
              have hT5 := (HT.out.below hbd).below hb5
              have hS5 := hd_ (HS16.out _ (below_next hbd hb5) HB5.out)
              refine hK.out _ _ hS5.out (fun _ => trivial) ?_
              clear hK
              try walk_nrm
              refine tkS (i := 2) hS5.out ?_; try walk_nrm
              refine tkS (i := 3) hS5.out ?_; try walk_nrm
              refine tkU (i := 4) hS5.out ?_; try walk_nrm
              refine tkU (i := 5) hS5.out ?_; try walk_nrm
              refine tkU (i := 6) hS5.out ?_; try walk_nrm
              refine tkU (i := 7) hS5.out ?_; try walk_nrm
              refine tkU (i := 8) hS5.out ?_; try walk_nrm
              refine tkS (i := 9) hS5.out ?_; try walk_nrm
              refine tkS (i := 10) hS5.out ?_; try walk_nrm
              refine tkU (i := 11) hS5.out ?_; try walk_nrm
              refine tkU (i := 12) hS5.out ?_; try walk_nrm
              refine tkU (i := 13) hS5.out ?_; try walk_nrm
              refine tkU (i := 14) hS5.out ?_; try walk_nrm
              refine tkU (i := 15) hS5.out ?_; try walk_nrm
              refine tkU (i := 16) hS5.out ?_; try walk_nrm
              refine tkU (i := 17) hS5.out ?_; try walk_nrm
              refine tkU (i := 18) hS5.out ?_; try walk_nrm
              refine tkU (i := 19) hS5.out ?_; try walk_nrm
              refine tkU (i := 20) hS5.out ?_; try walk_nrm
              refine tkU (i := 21) hS5.out ?_; try walk_nrm
              refine tkU (i := 22) hS5.out ?_; try walk_nrm
              refine tkU (i := 23) hS5.out ?_; try walk_nrm
              refine tkU (i := 24) hS5.out ?_; try walk_nrm
              refine tkU (i := 25) hS5.out ?_; try walk_nrm
              refine tkU (i := 26) hS5.out ?_; try walk_nrm
              refine tkS (i := 27) hS5.out ?_; try walk_nrm
              refine wpAnyT_done (by kernel_rfl) ?_ _
              have HBf := hd_ (below_next hbd hb5)
              try clear hge
              try clear hjk hjn hj0 hwj htn
              try clear hz hzn
              try clear hts
              go_wp2
              go_meet
              case rel => exact ⟨by rw [HLk.out]; try rfl, HBf⟩
            | true =>
            have hid : (0 : Int) < id := by have h1 := (Ed.okP_rng (show Ed.okP id ep ps = true from by have h := HOt.out.symm; unfold Ed.okT at h; simp only [Bool.and_eq_true] at h; exact h.1.1.1.1.1.1.1)).1; omega
            have HId := hd_ hid
            clear hid
            by_cases htp : tp ≤ sq
            · have hts : ¬ sq < tp := Int.not_lt.2 htp
              have HTp := hd_ (decide_eq_true htp)
              clear htp
              by_cases hk0 : k = 0
              · have hz : ¬ (0 : Int) < (k : Int) := by omega
                have hzn : ¬ 0 < k := by omega
                have HLk := hd_ (show lok = true by rw [HLo.out, HTp.out, HB0.out.2 hk0, decide_eq_true HId.out]; rfl)
                clear hk0
                have hS0 := hd_ (HS16.out _ hbd HBd.out)
                refine wp_region_T (fun W => W.cell? ⟨xb, 0, none⟩ = some (.int .i64 id) ∧ W.cell? ⟨xb, 1, none⟩ = some (.int .i64 ep) ∧ W.cell? ⟨xb, 2, none⟩ = some (.slice P pn pc) ∧ W.cell? ⟨xb, 3, none⟩ = some (.int .i64 sz) ∧ W.cell? ⟨xb, 4, none⟩ = some (.int .i64 lv) ∧ W.cell? ⟨xb, 5, none⟩ = some (.int .i64 ct) ∧ W.cell? ⟨xb, 6, none⟩ = some (.string lo) ∧ W.cell? ⟨xb, 7, none⟩ = some (.string hi) ∧ W.cell? ⟨xb, 8, none⟩ = some (.int .i64 tp) ∧ W.cell? ⟨w.heap.size, 1, none⟩ = some (.int .i64 sq) ∧ W.cell? ⟨w.heap.size, 3, none⟩ = some (.slice (some ⟨b, o, none⟩) m d)) (fun W => True) 99 (by kernel_rfl) ?_
                refine tkS (i := 0) hS0.out ?_; try walk_nrm
                refine wpAnyT_one (i := 1) (by kernel_rfl) rfl (fun K hK => ?_)
                try walk_nrm
                rw [if_pos (by rfl)]
                go_simp
                refine HPc.out.mono ?_
                rintro e v5 ⟨rfl, hb5⟩
                have HB5 := hd_ (below_next HBd.out hb5)
                have hT5 := (HT.out.below hbd).below hb5
                have hS5 := hd_ (HS16.out _ (below_next hbd hb5) HB5.out)
                refine hK.out _ _ hS5.out (fun _ => trivial) ?_
                clear hK
                try walk_nrm
                refine tkS (i := 2) hS5.out ?_; try walk_nrm
                refine tkS (i := 3) hS5.out ?_; try walk_nrm
                refine tkS (i := 4) hS5.out ?_; try walk_nrm
                refine tkS (i := 5) hS5.out ?_; try walk_nrm
                refine tkS (i := 6) hS5.out ?_; try walk_nrm
                refine tkS (i := 7) hS5.out ?_; try walk_nrm
                refine tkS (i := 8) hS5.out ?_; try walk_nrm
                refine tkS (i := 9) hS5.out ?_; try walk_nrm
                refine tkS (i := 10) hS5.out ?_; try walk_nrm
                refine tkS (i := 11) hS5.out ?_; try walk_nrm
                refine tkS (i := 12) hS5.out ?_; try walk_nrm
                refine tkS (i := 13) hS5.out ?_; try walk_nrm
                refine tkU (i := 14) hS5.out ?_; try walk_nrm
                refine tkU (i := 15) hS5.out ?_; try walk_nrm
                refine tkU (i := 16) hS5.out ?_; try walk_nrm
                refine tkU (i := 17) hS5.out ?_; try walk_nrm
                refine tkU (i := 18) hS5.out ?_; try walk_nrm
                refine tkU (i := 19) hS5.out ?_; try walk_nrm
                refine tkU (i := 20) hS5.out ?_; try walk_nrm
                refine tkU (i := 21) hS5.out ?_; try walk_nrm
                refine tkU (i := 22) hS5.out ?_; try walk_nrm
                refine tkU (i := 23) hS5.out ?_; try walk_nrm
                refine tkU (i := 24) hS5.out ?_; try walk_nrm
                refine tkU (i := 25) hS5.out ?_; try walk_nrm
                refine tkS (i := 26) hS5.out ?_; try walk_nrm
                refine tkS (i := 27) hS5.out ?_; try walk_nrm
                refine wpAnyT_done (by kernel_rfl) ?_ _
                have HBf := hd_ (below_next hbd hb5)
                try clear hge
                try clear hjk hjn hj0 hwj htn
                try clear hz hzn
                try clear hts
                go_wp2
                go_meet
                case rel => exact ⟨by rw [HLk.out]; try rfl, HBf⟩
              · have hz : (0 : Int) < (k : Int) := by omega
                have hzn : 0 < k := by omega
                obtain ⟨j, hj⟩ : ∃ j, k = j + 1 := ⟨k - 1, by omega⟩
                have hjk : (k : Int) - 1 = (j : Int) := by omega
                have hjn : (j : Int) < (m : Int) := by omega
                have hj0 : (0 : Int) ≤ (j : Int) := by omega
                have hwj : IntKind.i64.wrap (j : Int) = (j : Int) := Ed.wrap_nat (by omega)
                have htn : ((j : Int)).toNat = j := rfl
                obtain ⟨yp, hyp⟩ : ∃ yp, M[j]? = some yp := ⟨_, List.getElem?_eq_getElem (by rw [HMl.out]; omega)⟩
                obtain ⟨b3, o3, hAb3, _, _, hcp⟩ := HM1.out.nine hyp
                injection hAb3 with hAb3
                injection hAb3 with hb3 ho3
                subst hb3
                subst ho3
                have HBe := hd_ (show Ed.before ((M.map Ed.taOf).map (·.p.id)) k = yp.1.id by rw [hj]; exact Ed.before_succ (by rw [List.getElem?_map, List.getElem?_map, hyp]; rfl))
                obtain ⟨⟨pid, pep, PP, ppn, ppc, psz, plv, pct, plo, phi, ptp⟩, pps⟩ := yp
                have HCj := hd_ (fun (W : World) (hW : Below v.heap.size v W) => hcp W hW)
                dsimp only at HCj
                have HS16p := hd_ (fun (W : World) (h1 : Below wa.heap.size wa W) (h2 : Below v.heap.size v W) => show W.cell? ⟨xb, 0, none⟩ = some (.int .i64 id) ∧ W.cell? ⟨xb, 1, none⟩ = some (.int .i64 ep) ∧ W.cell? ⟨xb, 2, none⟩ = some (.slice P pn pc) ∧ W.cell? ⟨xb, 3, none⟩ = some (.int .i64 sz) ∧ W.cell? ⟨xb, 4, none⟩ = some (.int .i64 lv) ∧ W.cell? ⟨xb, 5, none⟩ = some (.int .i64 ct) ∧ W.cell? ⟨xb, 6, none⟩ = some (.string lo) ∧ W.cell? ⟨xb, 7, none⟩ = some (.string hi) ∧ W.cell? ⟨xb, 8, none⟩ = some (.int .i64 tp) ∧ W.cell? ⟨w.heap.size, 1, none⟩ = some (.int .i64 sq) ∧ W.cell? ⟨w.heap.size, 3, none⟩ = some (.slice (some ⟨b, o, none⟩) m d) ∧ W.cell? ⟨b, o + j * 9, none⟩ = some (.int .i64 pid) from ⟨(HT.out.below h1).at_ 0 rfl, (HT.out.below h1).at_ 1 rfl, (HT.out.below h1).at_ 2 rfl, (HT.out.below h1).at_ 3 rfl, (HT.out.below h1).at_ 4 rfl, (HT.out.below h1).at_ 5 rfl, (HT.out.below h1).at_ 6 rfl, (HT.out.below h1).at_ 7 rfl, (HT.out.below h1).at_ 8 rfl, (HXp.out _ h2).at_ 1 rfl, (HXp.out _ h2).at_ 3 rfl, (HCj.out _ h2).1⟩)
                clear hyp hcp hj hk0
                cases hlt2 : decide (pid < id) with
                | false =>
                  have hge : id ≤ pid := Int.not_lt.1 (of_decide_eq_false hlt2)
                  have HLk := hd_ (show lok = false by rw [HLo.out, HBe.out]; show (_ && decide (pid < id)) = false; rw [hlt2, Bool.and_false])
                  clear hlt2
                  have hS0 := hd_ (HS16p.out _ hbd HBd.out)
                  refine wp_region_T (fun W => W.cell? ⟨xb, 0, none⟩ = some (.int .i64 id) ∧ W.cell? ⟨xb, 1, none⟩ = some (.int .i64 ep) ∧ W.cell? ⟨xb, 2, none⟩ = some (.slice P pn pc) ∧ W.cell? ⟨xb, 3, none⟩ = some (.int .i64 sz) ∧ W.cell? ⟨xb, 4, none⟩ = some (.int .i64 lv) ∧ W.cell? ⟨xb, 5, none⟩ = some (.int .i64 ct) ∧ W.cell? ⟨xb, 6, none⟩ = some (.string lo) ∧ W.cell? ⟨xb, 7, none⟩ = some (.string hi) ∧ W.cell? ⟨xb, 8, none⟩ = some (.int .i64 tp) ∧ W.cell? ⟨w.heap.size, 1, none⟩ = some (.int .i64 sq) ∧ W.cell? ⟨w.heap.size, 3, none⟩ = some (.slice (some ⟨b, o, none⟩) m d) ∧ W.cell? ⟨b, o + j * 9, none⟩ = some (.int .i64 pid)) (fun W => True) 99 (by kernel_rfl) ?_
                  refine tkS (i := 0) hS0.out ?_; try walk_nrm
                  refine wpAnyT_one (i := 1) (by kernel_rfl) rfl (fun K hK => ?_)
                  try walk_nrm
                  rw [if_pos (by rfl)]
                  go_simp
                  refine HPc.out.mono ?_
                  rintro e v5 ⟨rfl, hb5⟩
                  have HB5 := hd_ (below_next HBd.out hb5)
                  have hT5 := (HT.out.below hbd).below hb5
                  have hS5 := hd_ (HS16p.out _ (below_next hbd hb5) HB5.out)
                  refine hK.out _ _ hS5.out (fun _ => trivial) ?_
                  clear hK
                  try walk_nrm
                  refine tkS (i := 2) hS5.out ?_; try walk_nrm
                  refine tkS (i := 3) hS5.out ?_; try walk_nrm
                  refine tkS (i := 4) hS5.out ?_; try walk_nrm
                  refine tkS (i := 5) hS5.out ?_; try walk_nrm
                  refine tkS (i := 6) hS5.out ?_; try walk_nrm
                  refine tkS (i := 7) hS5.out ?_; try walk_nrm
                  refine tkS (i := 8) hS5.out ?_; try walk_nrm
                  refine tkS (i := 9) hS5.out ?_; try walk_nrm
                  refine tkS (i := 10) hS5.out ?_; try walk_nrm
                  refine tkS (i := 11) hS5.out ?_; try walk_nrm
                  refine tkS (i := 12) hS5.out ?_; try walk_nrm
                  refine tkS (i := 13) hS5.out ?_; try walk_nrm
                  refine tkS (i := 14) hS5.out ?_; try walk_nrm
                  refine tkS (i := 15) hS5.out ?_; try walk_nrm
                  refine tkS (i := 16) hS5.out ?_; try walk_nrm
                  refine tkS (i := 17) hS5.out ?_; try walk_nrm
                  refine tkS (i := 18) hS5.out ?_; try walk_nrm
                  refine tkS (i := 19) hS5.out ?_; try walk_nrm
                  refine tkS (i := 20) hS5.out ?_; try walk_nrm
                  refine tkS (i := 21) hS5.out ?_; try walk_nrm
                  refine tkS (i := 22) hS5.out ?_; try walk_nrm
                  refine tkS (i := 23) hS5.out ?_; try walk_nrm
                  refine tkS (i := 24) hS5.out ?_; try walk_nrm
                  refine tkS (i := 25) hS5.out ?_; try walk_nrm
                  refine tkS (i := 26) hS5.out ?_; try walk_nrm
                  refine tkS (i := 27) hS5.out ?_; try walk_nrm
                  refine wpAnyT_done (by kernel_rfl) ?_ _
                  have HBf := hd_ (below_next hbd hb5)
                  try clear hge
                  try clear hjk hjn hj0 hwj htn
                  try clear hz hzn
                  try clear hts
                  go_wp2
                  go_meet
                  case rel => exact ⟨by rw [HLk.out]; try rfl, HBf⟩
                | true =>
                  have hge : ¬ id ≤ pid := Int.not_le.2 (of_decide_eq_true hlt2)
                  have HLk := hd_ (show lok = true by rw [HLo.out, HBe.out, HTp.out]; show (true && decide (pid < id)) = true; rw [hlt2]; rfl)
                  clear hlt2
                  have hS0 := hd_ (HS16p.out _ hbd HBd.out)
                  refine wp_region_T (fun W => W.cell? ⟨xb, 0, none⟩ = some (.int .i64 id) ∧ W.cell? ⟨xb, 1, none⟩ = some (.int .i64 ep) ∧ W.cell? ⟨xb, 2, none⟩ = some (.slice P pn pc) ∧ W.cell? ⟨xb, 3, none⟩ = some (.int .i64 sz) ∧ W.cell? ⟨xb, 4, none⟩ = some (.int .i64 lv) ∧ W.cell? ⟨xb, 5, none⟩ = some (.int .i64 ct) ∧ W.cell? ⟨xb, 6, none⟩ = some (.string lo) ∧ W.cell? ⟨xb, 7, none⟩ = some (.string hi) ∧ W.cell? ⟨xb, 8, none⟩ = some (.int .i64 tp) ∧ W.cell? ⟨w.heap.size, 1, none⟩ = some (.int .i64 sq) ∧ W.cell? ⟨w.heap.size, 3, none⟩ = some (.slice (some ⟨b, o, none⟩) m d) ∧ W.cell? ⟨b, o + j * 9, none⟩ = some (.int .i64 pid)) (fun W => True) 99 (by kernel_rfl) ?_
                  refine tkS (i := 0) hS0.out ?_; try walk_nrm
                  refine wpAnyT_one (i := 1) (by kernel_rfl) rfl (fun K hK => ?_)
                  try walk_nrm
                  rw [if_pos (by rfl)]
                  go_simp
                  refine HPc.out.mono ?_
                  rintro e v5 ⟨rfl, hb5⟩
                  have HB5 := hd_ (below_next HBd.out hb5)
                  have hT5 := (HT.out.below hbd).below hb5
                  have hS5 := hd_ (HS16p.out _ (below_next hbd hb5) HB5.out)
                  refine hK.out _ _ hS5.out (fun _ => trivial) ?_
                  clear hK
                  try walk_nrm
                  refine tkS (i := 2) hS5.out ?_; try walk_nrm
                  refine tkS (i := 3) hS5.out ?_; try walk_nrm
                  refine tkS (i := 4) hS5.out ?_; try walk_nrm
                  refine tkS (i := 5) hS5.out ?_; try walk_nrm
                  refine tkS (i := 6) hS5.out ?_; try walk_nrm
                  refine tkS (i := 7) hS5.out ?_; try walk_nrm
                  refine tkS (i := 8) hS5.out ?_; try walk_nrm
                  refine tkS (i := 9) hS5.out ?_; try walk_nrm
                  refine tkS (i := 10) hS5.out ?_; try walk_nrm
                  refine tkS (i := 11) hS5.out ?_; try walk_nrm
                  refine tkS (i := 12) hS5.out ?_; try walk_nrm
                  refine tkS (i := 13) hS5.out ?_; try walk_nrm
                  refine tkS (i := 14) hS5.out ?_; try walk_nrm
                  refine tkS (i := 15) hS5.out ?_; try walk_nrm
                  refine tkS (i := 16) hS5.out ?_; try walk_nrm
                  refine tkS (i := 17) hS5.out ?_; try walk_nrm
                  refine tkS (i := 18) hS5.out ?_; try walk_nrm
                  refine tkS (i := 19) hS5.out ?_; try walk_nrm
                  refine tkS (i := 20) hS5.out ?_; try walk_nrm
                  refine tkS (i := 21) hS5.out ?_; try walk_nrm
                  refine tkS (i := 22) hS5.out ?_; try walk_nrm
                  refine tkS (i := 23) hS5.out ?_; try walk_nrm
                  refine tkS (i := 24) hS5.out ?_; try walk_nrm
                  refine tkS (i := 25) hS5.out ?_; try walk_nrm
                  refine tkS (i := 26) hS5.out ?_; try walk_nrm
                  refine tkS (i := 27) hS5.out ?_; try walk_nrm
                  refine wpAnyT_done (by kernel_rfl) ?_ _
                  have HBf := hd_ (below_next hbd hb5)
                  try clear hge
                  try clear hjk hjn hj0 hwj htn
                  try clear hz hzn
                  try clear hts
                  go_wp2
                  go_meet
                  case rel => exact ⟨by rw [HLk.out]; try rfl, HBf⟩
            · have hts : sq < tp := Int.not_le.1 htp
              have HLk := hd_ (show lok = false by rw [HLo.out, decide_eq_false htp]; simp)
              clear htp
              have hS0 := hd_ (HS16.out _ hbd HBd.out)
              refine wp_region_T (fun W => W.cell? ⟨xb, 0, none⟩ = some (.int .i64 id) ∧ W.cell? ⟨xb, 1, none⟩ = some (.int .i64 ep) ∧ W.cell? ⟨xb, 2, none⟩ = some (.slice P pn pc) ∧ W.cell? ⟨xb, 3, none⟩ = some (.int .i64 sz) ∧ W.cell? ⟨xb, 4, none⟩ = some (.int .i64 lv) ∧ W.cell? ⟨xb, 5, none⟩ = some (.int .i64 ct) ∧ W.cell? ⟨xb, 6, none⟩ = some (.string lo) ∧ W.cell? ⟨xb, 7, none⟩ = some (.string hi) ∧ W.cell? ⟨xb, 8, none⟩ = some (.int .i64 tp) ∧ W.cell? ⟨w.heap.size, 1, none⟩ = some (.int .i64 sq) ∧ W.cell? ⟨w.heap.size, 3, none⟩ = some (.slice (some ⟨b, o, none⟩) m d)) (fun W => True) 99 (by kernel_rfl) ?_
              refine tkS (i := 0) hS0.out ?_; try walk_nrm
              refine wpAnyT_one (i := 1) (by kernel_rfl) rfl (fun K hK => ?_)
              try walk_nrm
              rw [if_pos (by rfl)]
              go_simp
              refine HPc.out.mono ?_
              rintro e v5 ⟨rfl, hb5⟩
              have HB5 := hd_ (below_next HBd.out hb5)
              have hT5 := (HT.out.below hbd).below hb5
              have hS5 := hd_ (HS16.out _ (below_next hbd hb5) HB5.out)
              refine hK.out _ _ hS5.out (fun _ => trivial) ?_
              clear hK
              try walk_nrm
              refine tkS (i := 2) hS5.out ?_; try walk_nrm
              refine tkS (i := 3) hS5.out ?_; try walk_nrm
              refine tkS (i := 4) hS5.out ?_; try walk_nrm
              refine tkS (i := 5) hS5.out ?_; try walk_nrm
              refine tkS (i := 6) hS5.out ?_; try walk_nrm
              refine tkS (i := 7) hS5.out ?_; try walk_nrm
              refine tkS (i := 8) hS5.out ?_; try walk_nrm
              refine tkS (i := 9) hS5.out ?_; try walk_nrm
              refine tkS (i := 10) hS5.out ?_; try walk_nrm
              refine tkU (i := 11) hS5.out ?_; try walk_nrm
              refine tkU (i := 12) hS5.out ?_; try walk_nrm
              refine tkU (i := 13) hS5.out ?_; try walk_nrm
              refine tkU (i := 14) hS5.out ?_; try walk_nrm
              refine tkU (i := 15) hS5.out ?_; try walk_nrm
              refine tkU (i := 16) hS5.out ?_; try walk_nrm
              refine tkU (i := 17) hS5.out ?_; try walk_nrm
              refine tkU (i := 18) hS5.out ?_; try walk_nrm
              refine tkU (i := 19) hS5.out ?_; try walk_nrm
              refine tkU (i := 20) hS5.out ?_; try walk_nrm
              refine tkU (i := 21) hS5.out ?_; try walk_nrm
              refine tkU (i := 22) hS5.out ?_; try walk_nrm
              refine tkU (i := 23) hS5.out ?_; try walk_nrm
              refine tkU (i := 24) hS5.out ?_; try walk_nrm
              refine tkU (i := 25) hS5.out ?_; try walk_nrm
              refine tkU (i := 26) hS5.out ?_; try walk_nrm
              refine tkS (i := 27) hS5.out ?_; try walk_nrm
              refine wpAnyT_done (by kernel_rfl) ?_ _
              have HBf := hd_ (below_next hbd hb5)
              try clear hge
              try clear hjk hjn hj0 hwj htn
              try clear hz hzn
              try clear hts
              go_wp2
              go_meet
              case rel => exact ⟨by rw [HLk.out]; try rfl, HBf⟩
          case rest =>
            obtain ⟨rfl, HW9⟩ := hcut
            rename World => w9
            have HB9 := hd_ (below_next HBa.out HW9.out)
            cases lok with
            | false =>
              have HF := hd_ (show false = ans by rw [HA.out, Ed.no_ts (i := k) (by dsimp only; rw [List.length_map, HMl.out]; exact hlt) HLk0.out.symm])
              go_wp2
              go_ret
              exact ⟨by rw [← HF.out]; rfl, below_next HBu.out HB9.out⟩
            | true =>
              have hpk := HLo.out.symm
              simp only [Bool.and_eq_true] at hpk
              have HPk := hd_ (Ed.okP_rng (show Ed.okP id ep ps = true from by have h := HOt.out.symm; rw [hpk.1.1] at h; unfold Ed.okT at h; simp only [Bool.and_eq_true] at h; exact h.1.1.1.1.1.1.1))
              have hpn : pn ≤ 64 := by have h1 := HPx.out.1.1; have h2 := HPk.out.2.1; omega
              have hal2 : al.length + (Ed.fl ps).length ≤ 128 * (n + (k + 1)) := by have h2 := HPk.out.2.1; rw [Ed.fl_len]; omega
              have hT9 := HT.out.below HW9.out
              have hR9 := HRa.out.below HW9.out
              have hbd9 : Below w9.heap.size w9 w9.drew := (Below.refl _ _).drew
              have hvw : v.heap.size ≤ w9.heap.size := HB9.out.size
              clear hpk
              go_upto_region 18 with fail
              have hS0 := hd_ (show w9.drew.cell? ⟨xb, 0, none⟩ = some (.int .i64 id) ∧ w9.drew.cell? ⟨xb, 1, none⟩ = some (.int .i64 ep) ∧ w9.drew.cell? ⟨xb, 2, none⟩ = some (.slice P pn pc) from ⟨(hT9.below hbd9).at_ 0 rfl, (hT9.below hbd9).at_ 1 rfl, (hT9.below hbd9).at_ 2 rfl⟩)
              refine wp_region_T (fun W => W.cell? ⟨xb, 0, none⟩ = some (.int .i64 id) ∧ W.cell? ⟨xb, 1, none⟩ = some (.int .i64 ep) ∧ W.cell? ⟨xb, 2, none⟩ = some (.slice P pn pc)) (fun W => True) 99 (by kernel_rfl) ?_
              refine tkS (i := 0) hS0.out ?_; try walk_nrm
              refine tkS (i := 1) hS0.out ?_; try walk_nrm
              refine tkS (i := 2) hS0.out ?_; try walk_nrm
              refine tkS (i := 3) hS0.out ?_; try walk_nrm
              refine tkS (i := 6) hS0.out ?_; try walk_nrm
              refine tkS (i := 7) hS0.out ?_; try walk_nrm
              refine tkS (i := 8) hS0.out ?_; try walk_nrm
              refine wpAnyT_one (i := 4) (by kernel_rfl) rfl (fun K hK => ?_)
              try walk_nrm
              rw [if_pos (by rfl)]
              go_simp
              have hn1 : Below w9.heap.size w9 (w9.drew.alloc (.cells #[.int .i64 id] 3)) := hbd9.alloc hbd9.size _
              have hS1 := hd_ (show (w9.drew.alloc (.cells #[.int .i64 id] 3)).cell? ⟨xb, 0, none⟩ = some (.int .i64 id) ∧ (w9.drew.alloc (.cells #[.int .i64 id] 3)).cell? ⟨xb, 1, none⟩ = some (.int .i64 ep) ∧ (w9.drew.alloc (.cells #[.int .i64 id] 3)).cell? ⟨xb, 2, none⟩ = some (.slice P pn pc) from ⟨(hT9.below hn1).at_ 0 rfl, (hT9.below hn1).at_ 1 rfl, (hT9.below hn1).at_ 2 rfl⟩)
              refine hK.out _ _ hS1.out (fun _ => trivial) ?_
              clear hK
              try walk_nrm
              refine wpAnyT_one (i := 5) (by kernel_rfl) rfl (fun K hK => ?_)
              have hR1 := hR9.below hn1
              have hlit := Ed.rdi_lit w9.drew [id] 3
              have hb1 := Nat.le_trans hvw hn1.size
              refine step_appN manyI (by rfl) 145 rfl (.tmp 140) (.tmp 144) rfl rfl hR1.ol (some ⟨w9.heap.size, 0, none⟩) 1 1 (Pk.iv [id]) (Pk.iv_one [id]) rfl hlit.2 (by omega) hb1 ?_
              intro R4 c4 v4 hg4
              have hT4 := (hT9.below hn1).grown hg4.grew (fun e => by have := HRl.out.1 _ e; omega)
              have hR4 := hR1.first hg4
              have HB4x := hd_ (hg4.below (below_next HB9.out hn1) hb1 (fun g h => (hR1.ol.blk g h).1))
              have hS4 := hd_ (show v4.cell? ⟨xb, 0, none⟩ = some (.int .i64 id) ∧ v4.cell? ⟨xb, 1, none⟩ = some (.int .i64 ep) ∧ v4.cell? ⟨xb, 2, none⟩ = some (.slice P pn pc) from ⟨(hT4).at_ 0 rfl, (hT4).at_ 1 rfl, (hT4).at_ 2 rfl⟩)
              have hv4 := HB4x.out.size
              refine hK.out _ _ hS4.out (fun _ => trivial) ?_
              clear hK
              try walk_nrm
              refine wpAnyT_one (i := 9) (by kernel_rfl) rfl (fun K hK => ?_)
              try walk_nrm
              rw [if_pos (by rfl)]
              go_simp
              refine (plots_any id ep P pn pc ps v4 (HPv.out v4 HB4x.out) (by omega)).mono ?_
              rintro e v5 ⟨B5, c5, rfl, hO5, hb5⟩
              have hS5 := hd_ (show v5.cell? ⟨xb, 0, none⟩ = some (.int .i64 id) ∧ v5.cell? ⟨xb, 1, none⟩ = some (.int .i64 ep) ∧ v5.cell? ⟨xb, 2, none⟩ = some (.slice P pn pc) from ⟨(hT4.below hb5).at_ 0 rfl, (hT4.below hb5).at_ 1 rfl, (hT4.below hb5).at_ 2 rfl⟩)
              have hR5 := hR4.below hb5
              have HB5 := hd_ (below_next HB4x.out hb5)
              have hv5 := HB5.out.size
              refine hK.out _ _ hS5.out (fun _ => trivial) ?_
              clear hK
              try walk_nrm
              refine wpAnyT_one (i := 10) (by kernel_rfl) rfl (fun K hK => ?_)
              refine step_appN manyI (by rfl) 150 rfl (.tmp 146) (.tmp 149) rfl rfl hR5.ot B5 (Ed.fl ps).length c5 (Pk.iv (Ed.fl ps)) (Pk.iv_one _) rfl hO5.rd (by omega) hv5 ?_
              intro T6 c6 v6 hg6
              have hT6 := (hT4.below hb5).grown hg6.grew (fun e => by have := HRl.out.2 _ e; omega)
              have HR6 := hd_ (hR5.second hg6)
              have HB6 := hd_ (hg6.below HB5.out hv5 (fun g h => (hR5.ot.blk g h).1))
              have hS6 := hd_ (show v6.cell? ⟨xb, 0, none⟩ = some (.int .i64 id) ∧ v6.cell? ⟨xb, 1, none⟩ = some (.int .i64 ep) ∧ v6.cell? ⟨xb, 2, none⟩ = some (.slice P pn pc) from ⟨(hT6).at_ 0 rfl, (hT6).at_ 1 rfl, (hT6).at_ 2 rfl⟩)
              refine hK.out _ _ hS6.out (fun _ => trivial) ?_
              clear hK
              try walk_nrm
              refine tkS (i := 11) hS6.out ?_; try walk_nrm
              refine tkS (i := 12) hS6.out ?_; try walk_nrm
              refine wpAnyT_done (by kernel_rfl) ?_ _
              have HOk1 := hd_ (Ed.upto_next HOk.out HLk0.out.symm)
              rw [show (L.map (·.1.id) ++ (M.take k).map (·.1.id)) ++ [id] = L.map (·.1.id) ++ (M.take (k + 1)).map (·.1.id) by rw [List.append_assoc, List.take_add_one, HY.out]; simp] at HR6
              rw [← List.length_append] at HR6
              have HTx := hd_ hT6
              have HV6 := hd_ (Below.refl v6.heap.size v6)
              clear hS6
              go_wp2_with fail
              go_loopw [10] (fun s10 wr => ∃ (q : Nat), q ≤ k ∧ s10 = .int .i64 (q : Int) ∧ Hid (∀ (j : Nat) (a : Ed.Ta), j < q → (M.map Ed.taOf)[j]? = some a → Ed.clash ⟨⟨id, ep, ps⟩, sz, lv, ct, lo, hi, tp⟩ a = false) ∧ Hid (Below v6.heap.size v6 wr)) (fun s10 _ => k - (intOf s10).toNat)
              case atStart => exact ⟨0, by omega, rfl, hd_ (fun j a hj => by omega), HV6⟩
              case round =>
                clear HV6
                obtain ⟨q, hq, rfl, HC3, HB3⟩ := hrel
                by_cases hqk : q < k
                · have hqi : (q : Int) < (k : Int) := by omega
                  have hq0 : (0 : Int) ≤ (q : Int) := by omega
                  have hqm : (q : Int) < (m : Int) := by omega
                  obtain ⟨yq, hyq⟩ : ∃ yq, M[q]? = some yq := ⟨_, List.getElem?_eq_getElem (by rw [HMl.out]; omega)⟩
                  obtain ⟨b3, o3, hAb3, _, _, hcq⟩ := HM1.out.nine hyq
                  injection hAb3 with hAb3
                  injection hAb3 with hb3 ho3
                  subst hb3
                  subst ho3
                  have HYq := hd_ (show (M.map Ed.taOf)[q]? = some (Ed.taOf yq) by rw [List.getElem?_map, hyq]; rfl)
                  obtain ⟨⟨id2, ep2, P2, pn2, pc2, sz2, lv2, ct2, lo2, hi2, tp2⟩, ps2⟩ := yq
                  have HCq := hd_ (fun (W : World) (hW : Below v.heap.size v W) => hcq W hW)
                  dsimp only at HCq
                  obtain ⟨cl, hcl⟩ : ∃ cl, cl = Ed.clash ⟨⟨id, ep, ps⟩, sz, lv, ct, lo, hi, tp⟩ ⟨⟨id2, ep2, ps2⟩, sz2, lv2, ct2, lo2, hi2, tp2⟩ := ⟨_, rfl⟩
                  have HCl2 := hd_ hcl
                  clear hyq hcq hcl
                  have HBw := hd_ (below_next HB6.out HB3.out)
                  have HTw := hd_ (HTx.out.below HB3.out)
                  have hbd3 : Below wr.heap.size wr wr.drew := (Below.refl _ _).drew
                  go_upto_region 22 with fail
                  go_cut [178] from 156 to 177 (fun s178 W => s178 = .bool cl ∧ Hid (Below wr.heap.size wr W))
                  case first =>
                    have HBwd := hd_ (below_next HBw.out hbd3)
                    have HS22 := hd_ (fun (W : World) (h1 : Below wr.heap.size wr W) (h2 : Below v.heap.size v W) => show W.cell? ⟨xb, 0, none⟩ = some (.int .i64 id) ∧ W.cell? ⟨xb, 1, none⟩ = some (.int .i64 ep) ∧ W.cell? ⟨xb, 2, none⟩ = some (.slice P pn pc) ∧ W.cell? ⟨xb, 3, none⟩ = some (.int .i64 sz) ∧ W.cell? ⟨xb, 4, none⟩ = some (.int .i64 lv) ∧ W.cell? ⟨xb, 5, none⟩ = some (.int .i64 ct) ∧ W.cell? ⟨xb, 6, none⟩ = some (.string lo) ∧ W.cell? ⟨xb, 7, none⟩ = some (.string hi) ∧ W.cell? ⟨xb, 8, none⟩ = some (.int .i64 tp) ∧ W.cell? ⟨w.heap.size, 3, none⟩ = some (.slice (some ⟨b, o, none⟩) m d) ∧ W.cell? ⟨b, o + q * 9, none⟩ = some (.int .i64 id2) ∧ W.cell? ⟨b, o + q * 9 + 1, none⟩ = some (.int .i64 ep2) ∧ W.cell? ⟨b, o + q * 9 + 2, none⟩ = some (.slice P2 pn2 pc2) ∧ W.cell? ⟨b, o + q * 9 + 3, none⟩ = some (.int .i64 sz2) ∧ W.cell? ⟨b, o + q * 9 + 4, none⟩ = some (.int .i64 lv2) ∧ W.cell? ⟨b, o + q * 9 + 5, none⟩ = some (.int .i64 ct2) ∧ W.cell? ⟨b, o + q * 9 + 6, none⟩ = some (.string lo2) ∧ W.cell? ⟨b, o + q * 9 + 7, none⟩ = some (.string hi2) ∧ W.cell? ⟨b, o + q * 9 + 8, none⟩ = some (.int .i64 tp2) from by
                      obtain ⟨k0, k1, k2, k3, k4, k5, k6, k7, k8⟩ := HCq.out W h2
                      exact ⟨(HTw.out.below h1).at_ 0 rfl, (HTw.out.below h1).at_ 1 rfl, (HTw.out.below h1).at_ 2 rfl, (HTw.out.below h1).at_ 3 rfl, (HTw.out.below h1).at_ 4 rfl, (HTw.out.below h1).at_ 5 rfl, (HTw.out.below h1).at_ 6 rfl, (HTw.out.below h1).at_ 7 rfl, (HTw.out.below h1).at_ 8 rfl, (HXp.out W h2).at_ 3 rfl, k0, k1, k2, k3, k4, k5, k6, k7, k8⟩)
                    have hS0 := hd_ (HS22.out _ hbd3 HBwd.out)
                    by_cases hl1 : 0 < lv
                    · have hlp : (0 : Int) < lv := hl1
                      by_cases hl2 : lv2 = lv
                      · have hle : (lv2 == lv) = true := beq_iff_eq.2 hl2
                        have HCv := hd_ (show cl = Ed.meet ⟨id, ep, P, pn, pc, sz, lv, ct, lo, hi, tp⟩ ⟨id2, ep2, P2, pn2, pc2, sz2, lv2, ct2, lo2, hi2, tp2⟩ by rw [HCl2.out]; unfold Ed.clash Ed.meet; dsimp only; rw [decide_eq_true hl1, decide_eq_true hl2]; rfl)
                        clear hl1 hl2
                        refine wp_region_T (fun W => W.cell? ⟨xb, 0, none⟩ = some (.int .i64 id) ∧ W.cell? ⟨xb, 1, none⟩ = some (.int .i64 ep) ∧ W.cell? ⟨xb, 2, none⟩ = some (.slice P pn pc) ∧ W.cell? ⟨xb, 3, none⟩ = some (.int .i64 sz) ∧ W.cell? ⟨xb, 4, none⟩ = some (.int .i64 lv) ∧ W.cell? ⟨xb, 5, none⟩ = some (.int .i64 ct) ∧ W.cell? ⟨xb, 6, none⟩ = some (.string lo) ∧ W.cell? ⟨xb, 7, none⟩ = some (.string hi) ∧ W.cell? ⟨xb, 8, none⟩ = some (.int .i64 tp) ∧ W.cell? ⟨w.heap.size, 3, none⟩ = some (.slice (some ⟨b, o, none⟩) m d) ∧ W.cell? ⟨b, o + q * 9, none⟩ = some (.int .i64 id2) ∧ W.cell? ⟨b, o + q * 9 + 1, none⟩ = some (.int .i64 ep2) ∧ W.cell? ⟨b, o + q * 9 + 2, none⟩ = some (.slice P2 pn2 pc2) ∧ W.cell? ⟨b, o + q * 9 + 3, none⟩ = some (.int .i64 sz2) ∧ W.cell? ⟨b, o + q * 9 + 4, none⟩ = some (.int .i64 lv2) ∧ W.cell? ⟨b, o + q * 9 + 5, none⟩ = some (.int .i64 ct2) ∧ W.cell? ⟨b, o + q * 9 + 6, none⟩ = some (.string lo2) ∧ W.cell? ⟨b, o + q * 9 + 7, none⟩ = some (.string hi2) ∧ W.cell? ⟨b, o + q * 9 + 8, none⟩ = some (.int .i64 tp2)) (fun W => True) 99 (by kernel_rfl) ?_
                        refine tkS (i := 0) hS0.out ?_; try walk_nrm
                        refine tkS (i := 1) hS0.out ?_; try walk_nrm
                        refine tkS (i := 2) hS0.out ?_; try walk_nrm
                        refine tkS (i := 3) hS0.out ?_; try walk_nrm
                        refine tkS (i := 4) hS0.out ?_; try walk_nrm
                        refine tkS (i := 5) hS0.out ?_; try walk_nrm
                        refine tkS (i := 6) hS0.out ?_; try walk_nrm
                        refine tkS (i := 7) hS0.out ?_; try walk_nrm
                        refine tkS (i := 8) hS0.out ?_; try walk_nrm
                        refine tkS (i := 9) hS0.out ?_; try walk_nrm
                        refine tkS (i := 10) hS0.out ?_; try walk_nrm
                        refine tkS (i := 11) hS0.out ?_; try walk_nrm
                        refine tkS (i := 12) hS0.out ?_; try walk_nrm
                        refine tkS (i := 13) hS0.out ?_; try walk_nrm
                        refine tkS (i := 14) hS0.out ?_; try walk_nrm
                        refine tkS (i := 15) hS0.out ?_; try walk_nrm
                        refine tkS (i := 16) hS0.out ?_; try walk_nrm
                        refine tkS (i := 17) hS0.out ?_; try walk_nrm
                        refine tkS (i := 18) hS0.out ?_; try walk_nrm
                        refine tkS (i := 19) hS0.out ?_; try walk_nrm
                        refine tkS (i := 20) hS0.out ?_; try walk_nrm
                        refine wpAnyT_one (i := 21) (by kernel_rfl) rfl (fun K hK => ?_)
                        try walk_nrm
                        rw [if_pos (by rfl)]
                        go_simp
                        refine (meet_any ⟨id, ep, P, pn, pc, sz, lv, ct, lo, hi, tp⟩ ⟨id2, ep2, P2, pn2, pc2, sz2, lv2, ct2, lo2, hi2, tp2⟩ wr.drew).mono ?_
                        rintro e v5 ⟨rfl, hb5⟩
                        have hS5 := hd_ (HS22.out _ (below_next hbd3 hb5) (below_next HBwd.out hb5))
                        refine hK.out _ _ hS5.out (fun _ => trivial) ?_
                        clear hK
                        try walk_nrm
                        refine tkS (i := 22) hS5.out ?_; try walk_nrm
                        refine wpAnyT_done (by kernel_rfl) ?_ _
                        have HBf := hd_ (below_next hbd3 hb5)
                        try clear hlp
                        try clear hle
                        go_wp2
                        go_meet
                        case rel => exact ⟨by rw [HCv.out]; try rfl, HBf⟩
                      · have hle : (lv2 == lv) = false := beq_eq_false_iff_ne.2 hl2
                        have HCv := hd_ (show cl = false by rw [HCl2.out]; unfold Ed.clash; dsimp only; rw [decide_eq_false hl2]; simp)
                        clear hl1 hl2
                        refine wp_region_T (fun W => W.cell? ⟨xb, 0, none⟩ = some (.int .i64 id) ∧ W.cell? ⟨xb, 1, none⟩ = some (.int .i64 ep) ∧ W.cell? ⟨xb, 2, none⟩ = some (.slice P pn pc) ∧ W.cell? ⟨xb, 3, none⟩ = some (.int .i64 sz) ∧ W.cell? ⟨xb, 4, none⟩ = some (.int .i64 lv) ∧ W.cell? ⟨xb, 5, none⟩ = some (.int .i64 ct) ∧ W.cell? ⟨xb, 6, none⟩ = some (.string lo) ∧ W.cell? ⟨xb, 7, none⟩ = some (.string hi) ∧ W.cell? ⟨xb, 8, none⟩ = some (.int .i64 tp) ∧ W.cell? ⟨w.heap.size, 3, none⟩ = some (.slice (some ⟨b, o, none⟩) m d) ∧ W.cell? ⟨b, o + q * 9, none⟩ = some (.int .i64 id2) ∧ W.cell? ⟨b, o + q * 9 + 1, none⟩ = some (.int .i64 ep2) ∧ W.cell? ⟨b, o + q * 9 + 2, none⟩ = some (.slice P2 pn2 pc2) ∧ W.cell? ⟨b, o + q * 9 + 3, none⟩ = some (.int .i64 sz2) ∧ W.cell? ⟨b, o + q * 9 + 4, none⟩ = some (.int .i64 lv2) ∧ W.cell? ⟨b, o + q * 9 + 5, none⟩ = some (.int .i64 ct2) ∧ W.cell? ⟨b, o + q * 9 + 6, none⟩ = some (.string lo2) ∧ W.cell? ⟨b, o + q * 9 + 7, none⟩ = some (.string hi2) ∧ W.cell? ⟨b, o + q * 9 + 8, none⟩ = some (.int .i64 tp2)) (fun W => True) 99 (by kernel_rfl) ?_
                        refine tkS (i := 0) hS0.out ?_; try walk_nrm
                        refine tkS (i := 1) hS0.out ?_; try walk_nrm
                        refine tkS (i := 2) hS0.out ?_; try walk_nrm
                        refine tkS (i := 3) hS0.out ?_; try walk_nrm
                        refine tkS (i := 4) hS0.out ?_; try walk_nrm
                        refine tkS (i := 5) hS0.out ?_; try walk_nrm
                        refine tkS (i := 6) hS0.out ?_; try walk_nrm
                        refine tkS (i := 7) hS0.out ?_; try walk_nrm
                        refine tkS (i := 8) hS0.out ?_; try walk_nrm
                        refine tkS (i := 9) hS0.out ?_; try walk_nrm
                        refine tkS (i := 10) hS0.out ?_; try walk_nrm
                        refine tkS (i := 11) hS0.out ?_; try walk_nrm
                        refine tkS (i := 12) hS0.out ?_; try walk_nrm
                        refine tkS (i := 13) hS0.out ?_; try walk_nrm
                        refine tkS (i := 14) hS0.out ?_; try walk_nrm
                        refine tkU (i := 15) hS0.out ?_; try walk_nrm
                        refine tkU (i := 16) hS0.out ?_; try walk_nrm
                        refine tkU (i := 17) hS0.out ?_; try walk_nrm
                        refine tkU (i := 18) hS0.out ?_; try walk_nrm
                        refine tkU (i := 19) hS0.out ?_; try walk_nrm
                        refine tkU (i := 20) hS0.out ?_; try walk_nrm
                        refine tkU (i := 21) hS0.out ?_; try walk_nrm
                        refine tkS (i := 22) hS0.out ?_; try walk_nrm
                        refine wpAnyT_done (by kernel_rfl) ?_ _
                        have HBf := hd_ hbd3
                        try clear hlp
                        try clear hle
                        go_wp2
                        go_meet
                        case rel => exact ⟨by rw [HCv.out]; try rfl, HBf⟩
                    · have hlp : ¬ (0 : Int) < lv := hl1
                      have HCv := hd_ (show cl = false by rw [HCl2.out]; unfold Ed.clash; dsimp only; rw [decide_eq_false hl1]; simp)
                      clear hl1
                      refine wp_region_T (fun W => W.cell? ⟨xb, 0, none⟩ = some (.int .i64 id) ∧ W.cell? ⟨xb, 1, none⟩ = some (.int .i64 ep) ∧ W.cell? ⟨xb, 2, none⟩ = some (.slice P pn pc) ∧ W.cell? ⟨xb, 3, none⟩ = some (.int .i64 sz) ∧ W.cell? ⟨xb, 4, none⟩ = some (.int .i64 lv) ∧ W.cell? ⟨xb, 5, none⟩ = some (.int .i64 ct) ∧ W.cell? ⟨xb, 6, none⟩ = some (.string lo) ∧ W.cell? ⟨xb, 7, none⟩ = some (.string hi) ∧ W.cell? ⟨xb, 8, none⟩ = some (.int .i64 tp) ∧ W.cell? ⟨w.heap.size, 3, none⟩ = some (.slice (some ⟨b, o, none⟩) m d) ∧ W.cell? ⟨b, o + q * 9, none⟩ = some (.int .i64 id2) ∧ W.cell? ⟨b, o + q * 9 + 1, none⟩ = some (.int .i64 ep2) ∧ W.cell? ⟨b, o + q * 9 + 2, none⟩ = some (.slice P2 pn2 pc2) ∧ W.cell? ⟨b, o + q * 9 + 3, none⟩ = some (.int .i64 sz2) ∧ W.cell? ⟨b, o + q * 9 + 4, none⟩ = some (.int .i64 lv2) ∧ W.cell? ⟨b, o + q * 9 + 5, none⟩ = some (.int .i64 ct2) ∧ W.cell? ⟨b, o + q * 9 + 6, none⟩ = some (.string lo2) ∧ W.cell? ⟨b, o + q * 9 + 7, none⟩ = some (.string hi2) ∧ W.cell? ⟨b, o + q * 9 + 8, none⟩ = some (.int .i64 tp2)) (fun W => True) 99 (by kernel_rfl) ?_
                      refine tkS (i := 0) hS0.out ?_; try walk_nrm
                      refine tkS (i := 1) hS0.out ?_; try walk_nrm
                      refine tkS (i := 2) hS0.out ?_; try walk_nrm
                      refine tkS (i := 3) hS0.out ?_; try walk_nrm
                      refine tkU (i := 4) hS0.out ?_; try walk_nrm
                      refine tkU (i := 5) hS0.out ?_; try walk_nrm
                      refine tkU (i := 6) hS0.out ?_; try walk_nrm
                      refine tkU (i := 7) hS0.out ?_; try walk_nrm
                      refine tkU (i := 8) hS0.out ?_; try walk_nrm
                      refine tkU (i := 9) hS0.out ?_; try walk_nrm
                      refine tkU (i := 10) hS0.out ?_; try walk_nrm
                      refine tkU (i := 11) hS0.out ?_; try walk_nrm
                      refine tkU (i := 12) hS0.out ?_; try walk_nrm
                      refine tkS (i := 13) hS0.out ?_; try walk_nrm
                      refine tkS (i := 14) hS0.out ?_; try walk_nrm
                      refine tkU (i := 15) hS0.out ?_; try walk_nrm
                      refine tkU (i := 16) hS0.out ?_; try walk_nrm
                      refine tkU (i := 17) hS0.out ?_; try walk_nrm
                      refine tkU (i := 18) hS0.out ?_; try walk_nrm
                      refine tkU (i := 19) hS0.out ?_; try walk_nrm
                      refine tkU (i := 20) hS0.out ?_; try walk_nrm
                      refine tkU (i := 21) hS0.out ?_; try walk_nrm
                      refine tkS (i := 22) hS0.out ?_; try walk_nrm
                      refine wpAnyT_done (by kernel_rfl) ?_ _
                      have HBf := hd_ hbd3
                      try clear hlp
                      try clear hle
                      go_wp2
                      go_meet
                      case rel => exact ⟨by rw [HCv.out]; try rfl, HBf⟩
                  case rest =>
                    obtain ⟨rfl, HW3⟩ := hcut
                    rename World => w3
                    cases cl with
                    | true =>
                      have HF := hd_ (show false = ans by rw [HA.out, Ed.no_apart hqk (by show (M.map Ed.taOf)[k]? = _; rw [List.getElem?_map, HY.out]; rfl) HYq.out HCl2.out.symm])
                      go_wp2
                      go_ret
                      exact ⟨by rw [← HF.out]; rfl, below_next HBu.out (below_next HBw.out HW3.out)⟩
                    | false =>
                      have HC4 := hd_ (show ∀ (j : Nat) (a : Ed.Ta), j < q + 1 → (M.map Ed.taOf)[j]? = some a → Ed.clash ⟨⟨id, ep, ps⟩, sz, lv, ct, lo, hi, tp⟩ a = false from fun j a hj ha => by
                        by_cases e : j = q
                        · subst e
                          rw [HYq.out] at ha
                          injection ha with ha
                          subst ha
                          exact HCl2.out.symm
                        · exact HC3.out j a (by omega) ha)
                      have HB7 := hd_ (below_next HB3.out HW3.out)
                      go_wp2_with fail
                      go_roundw
                      case rel => exact ⟨q + 1, by omega, by go_num, HC4, HB7⟩
                      case measure => simp [intOf]; omega
                · have hqi : ¬ (q : Int) < (k : Int) := by omega
                  have hqe : q = k := by omega
                  have HRn := hd_ (HR6.out.below HB3.out)
                  have HBn := hd_ (below_next HB6.out HB3.out)
                  have HCn := hd_ (show ∀ (i j : Nat) (a b : Ed.Ta), i < k + 1 → j < i → (M.map Ed.taOf)[i]? = some a → (M.map Ed.taOf)[j]? = some b → Ed.clash a b = false from fun i j a b hi1 hj ha hb => by
                    by_cases e : i = k
                    · subst e
                      have h5 : (M.map Ed.taOf)[i]? = some ⟨⟨id, ep, ps⟩, sz, lv, ct, lo, hi, tp⟩ := by rw [List.getElem?_map, HY.out]; rfl
                      rw [h5] at ha
                      injection ha with ha
                      subst ha
                      exact HC3.out j b (by omega) hb
                    · exact HCl.out i j a b (by omega) hj ha hb)
                  clear hqk hqe
                  go_wp2_with fail
                  go_roundw
                  case rel => exact ⟨k + 1, R4, c4, T6, c6, al ++ Ed.fl ps, by omega, (by first | rfl | simp), (by first | rfl | (rw [List.length_append])), by go_num, hd_ (by rw [HAl.out]; unfold Ed.plT; rw [List.take_add_one, HY.out]; simp), by rw [List.length_append]; exact hal2, HRn, HOk1, HCn, HBn⟩
                  case measure => simp [intOf]; omega
        · have hki : ¬ (k : Int) < (m : Int) := by omega
          have hmk : m = k := by omega
          subst hmk
          have HTs := hd_ (show Ed.okTs sq (M.map Ed.taOf) = true from Ed.okTs_yes (fun i hi1 => HOk.out i (by rw [List.length_map, HMl.out] at hi1; omega)))
          have HAp := hd_ (show Ed.apartB (M.map Ed.taOf) = true from Ed.apartB_iff.2 (fun i j a b hj ha hb => HCl.out i j a b (by have h1 := (List.getElem?_eq_some_iff.1 ha).1; rw [List.length_map, HMl.out] at h1; omega) hj ha hb))
          have HAlf := hd_ (show al = Ed.plK L ++ Ed.plT M by rw [HAl.out, List.take_of_length_le (by rw [HMl.out]; omega), HAl1.out])
          have HRf := hd_ (show TwoR v.heap.size wr R (n + m) rc (L.map (·.1.id) ++ M.map (·.1.id)) T al.length tc al from by
            have h := HRw.out
            rw [List.take_of_length_le (by rw [HMl.out]; omega)] at h
            exact h)
          have halm : al.length ≤ 30000 := by omega
          have HVp := hd_ (Ed.is_end nx sq L M HYes.out HLs.out HTs.out HAp.out)
          have HBw := HB
          obtain ⟨ids, hids⟩ : ∃ i, i = L.map (·.1.id) ++ M.map (·.1.id) := ⟨_, rfl⟩
          rw [← hids] at HRf HVp
          rw [← HAlf.out] at HVp
          have HRi := hd_ HRf.out.ol.ints
          have HRa := hd_ HRf.out.ot.ints
          clear hlt HOk HCl HAl HRw hal HAlf hids
          go_wp2_with fail
          clear x3 hki
          go_loopw [11] (fun s11 wq => ∃ (q : Nat), q ≤ n + m ∧ s11 = .int .i64 (q : Int) ∧ Hid (∀ (j : Nat) (x : Int), j < q → ids[j]? = some x → x < nx) ∧ Hid (Below wr.heap.size wr wq)) (fun s11 _ => (n + m) - (intOf s11).toNat)
          case atStart => exact ⟨0, by omega, rfl, hd_ (fun j x hj => by omega), hd_ (Below.refl _ _)⟩
          case round =>
            obtain ⟨q, hq, rfl, HN, HBq⟩ := hrel
            have HBv := hd_ (below_next HBw.out HBq.out)
            have hbd4 : Below wr.heap.size wr wr.drew := (Below.refl _ _).drew
            have HBvd := hd_ (below_next HBv.out hbd4)
            have HBqd := hd_ (below_next HBq.out hbd4)
            have hlen : ids.length = n + m := HRi.out.1
            by_cases hqk : q < n + m
            · have hqi : (q : Int) < (n : Int) + (m : Int) := by omega
              have hqj : (q : Int) < ((n + m : Nat) : Int) := by omega
              have hq0 : (0 : Int) ≤ (q : Int) := by omega
              obtain ⟨x, hx⟩ : ∃ x, ids[q]? = some x := ⟨_, List.getElem?_eq_getElem (by rw [hlen]; exact hqk)⟩
              obtain ⟨b3, o3, hR3, _, hcx⟩ := HRi.out.at_ hx
              have HXx := hd_ hx
              have HRe := hd_ hR3
              have c0 := hcx wr.drew HBqd.out
              have p0 := (HXp.out wr.drew HBvd.out).at_ 0 rfl
              subst hR3
              clear hx hcx
              by_cases hge : nx ≤ x
              · have HF := hd_ (show false = ans by
                  rw [HA.out, HVp.out.1, show ids.all (fun x => decide (x < nx)) = false from by
                    rw [Bool.eq_false_iff]
                    intro h3
                    have h4 := List.all_eq_true.1 h3 x (List.mem_of_getElem? HXx.out)
                    have h5 := of_decide_eq_true h4
                    omega]
                  rfl)
                go_wp2_with fail
                go_region
                all_goals
                  go_wp2
                  go_ret
                  exact ⟨by rw [← HF.out]; rfl, below_next HBu.out HBvd.out⟩
              · have HNn := hd_ (show ∀ (j : Nat) (z : Int), j < q + 1 → ids[j]? = some z → z < nx from fun j z hj hz => by
                  by_cases e : j = q
                  · subst e
                    rw [HXx.out] at hz
                    injection hz with hz
                    omega
                  · exact HN.out j z (by omega) hz)
                go_wp2_with fail
                go_region
                all_goals
                  go_wp2
                  go_roundw
                  case rel => exact ⟨q + 1, by omega, by go_num, HNn, HBqd⟩
                  case measure => simp [intOf]; omega
            · have hqi : ¬ (q : Int) < (n : Int) + (m : Int) := by omega
              have hqj : ¬ (q : Int) < ((n + m : Nat) : Int) := by omega
              have HAn := hd_ (show ans = (decide ids.Nodup && decide al.Nodup) by
                rw [HA.out, HVp.out.1, show ids.all (fun x => decide (x < nx)) = true from by
                  rw [List.all_eq_true]
                  intro x hx
                  obtain ⟨j, hj⟩ := List.getElem?_of_mem hx
                  exact decide_eq_true (HN.out j x (by have := (List.getElem?_eq_some_iff.1 hj).1; omega) hj)]
                rfl)
              have CU := hd_ (unlike_any R (n + m) rc ids wr (HRi.out.below HBq.out) (by omega))
              have CV := hd_ (fun (W : World) (hW : Below wr.heap.size wr W) => unlike_any T al.length tc al W ((HRa.out.below HBq.out).below hW) (by omega))
              clear hqk hq
              cases hd1 : decide ids.Nodup with
              | false =>
                rw [hd1] at CU
                have HF := hd_ (show false = ans by rw [HAn.out, hd1]; rfl)
                clear hd1
                go_wp2_with fail
                refine CU.out.mono ?_
                rintro e z ⟨rfl, hbz⟩
                go_wp2
                go_ret
                exact ⟨by rw [← HF.out]; rfl, below_next HBu.out (below_next HBv.out hbz)⟩
              | true =>
                rw [hd1] at CU
                by_cases h511 : al.length ≤ 511
                · have h5 : (al.length : Int) ≤ 511 := by omega
                  have HF := hd_ (show decide al.Nodup = ans by rw [HAn.out, hd1]; rfl)
                  clear hd1
                  go_wp2_with fail
                  refine CU.out.mono ?_
                  rintro e z ⟨rfl, hbz⟩
                  have CW := hd_ (CV.out z hbz)
                  go_wp2_with fail
                  refine CW.out.mono ?_
                  rintro e z2 ⟨rfl, hbz2⟩
                  have HBz := hd_ (below_next (below_next HBv.out hbz) hbz2)
                  rw [HF.out]
                  go_wp2
                  go_ret
                  exact ⟨rfl, below_next HBu.out HBz.out⟩
                · have h5 : ¬ (al.length : Int) ≤ 511 := by omega
                  have HF := hd_ (show false = ans by rw [HAn.out, decide_eq_false (fun h => h511 (HVp.out.2 h)), Bool.and_false])
                  clear hd1
                  go_wp2_with fail
                  refine CU.out.mono ?_
                  rintro e z ⟨rfl, hbz⟩
                  go_wp2
                  go_ret
                  exact ⟨by rw [← HF.out]; rfl, below_next HBu.out (below_next HBv.out hbz)⟩
end Go.Proofs.YthfcjlndaajkfaaGreat
