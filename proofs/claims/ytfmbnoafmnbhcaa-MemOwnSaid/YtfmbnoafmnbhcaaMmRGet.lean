/- The document's Get. -/
import Derived.Test.YtfmbnoafmnbhcaaMmLaid
import Derived.Test.YtfmbnoafmnbhcaaMmLevA
import Derived.Test.YtfmbnoafmnbhcaaMmMore
namespace Go.Proofs.Ytfmbnoafmnbhcaa
open Go.RowKit
namespace Bk
open Classical in
/-- The newest so far. -/
noncomputable def bstep (key : ByteArray) (seq : Int) (b : Option P) (y : P) : Option P := if y.1.key = key ∧ y.1.seq ≤ seq ∧ (∀ z, b = some z → z.1.seq < y.1.seq) then some y else b
noncomputable def best (key : ByteArray) (seq : Int) (es : List P) : Option P := es.foldl (bstep key seq) none
theorem best_snoc {key : ByteArray} {seq : Int} {es : List P} {k : Nat} {y : P} (h : es[k]? = some y) : best key seq (es.take (k + 1)) = bstep key seq (best key seq (es.take k)) y := by
  rw [List.take_add_one, h]
  unfold best
  rw [List.foldl_append]
  rfl
theorem bstep_no {key : ByteArray} {seq : Int} {b : Option P} {y : P} (h : ¬ (y.1.key = key ∧ y.1.seq ≤ seq ∧ (∀ z, b = some z → z.1.seq < y.1.seq))) : bstep key seq b y = b := by unfold bstep; rw [if_neg h]
theorem bstep_yes {key : ByteArray} {seq : Int} {b : Option P} {y : P} (h : y.1.key = key ∧ y.1.seq ≤ seq ∧ (∀ z, b = some z → z.1.seq < y.1.seq)) : bstep key seq b y = some y := by unfold bstep; rw [if_pos h]
theorem best_none {key : ByteArray} {seq : Int} : ∀ {es : List P} {b : Option P}, (∀ y ∈ es, ¬ (y.1.key = key ∧ y.1.seq ≤ seq ∧ ∀ z, b = some z → z.1.seq < y.1.seq)) → es.foldl (bstep key seq) b = b
  | [], _, _ => rfl
  | y :: ys, b, h => by
    rw [List.foldl_cons, bstep_no (h y List.mem_cons_self)]
    exact best_none (fun z hz => h z (List.mem_cons_of_mem _ hz))
/-- In order, the newest is the first that is not ahead of what is asked for. -/
theorem best_pick {key : ByteArray} {seq : Int} : ∀ {es : List P}, Sorted es → best key seq es = pick key (es.filter (fun x => !decide (cmp x.1 (want key seq) < 0)))
  | [], _ => rfl
  | y :: ys, h => by
    have h0 : (∀ z ∈ ys, lt y z) ∧ Sorted ys := List.pairwise_cons.1 h
    by_cases hy : cmp y.1 (want key seq) < 0
    · rw [List.filter_cons_of_neg (by simp [hy]), ← best_pick h0.2]
      unfold best
      rw [List.foldl_cons, bstep_no]
      rintro ⟨h1, h2, _⟩
      unfold cmp want at hy
      dsimp only at hy
      rw [h1, cmpS_self, if_neg (fun e => e rfl), if_neg (by omega)] at hy
      split at hy <;> omega
    · rw [List.filter_cons_of_pos (by simp [hy])]
      have hpk : pick key (y :: ys.filter (fun x => !decide (cmp x.1 (want key seq) < 0))) = if y.1.key = key then some y else none := rfl
      rw [hpk]
      unfold best
      rw [List.foldl_cons]
      by_cases hk : y.1.key = key
      · rw [if_pos hk]
        have hs : y.1.seq ≤ seq := by
          unfold cmp want at hy
          dsimp only at hy
          rw [hk, cmpS_self, if_neg (fun e => e rfl)] at hy
          by_cases h1 : seq < y.1.seq
          · rw [if_pos h1] at hy; omega
          · omega
        rw [bstep_yes ⟨hk, hs, fun z e => by cases e⟩]
        refine best_none fun z hz e => ?_
        have h1 := h0.1 z hz
        have h2 := e.2.2 y rfl
        unfold lt cmp at h1
        rw [hk, e.1, cmpS_self, if_neg (fun e => e rfl), if_neg (by omega)] at h1
        split at h1 <;> omega
      · rw [if_neg hk]
        rw [bstep_no (fun e => hk e.1)]
        refine best_none fun z hz e => ?_
        have h1 := h0.1 z hz
        have hkk : cmpS y.1.key key ≠ 0 := fun e => hk (cmpS_zero e)
        unfold cmp want at hy
        dsimp only at hy
        rw [if_pos hkk] at hy
        unfold lt cmp at h1
        rw [e.1, if_pos hkk] at h1
        exact hy h1
end Bk
/-- What the document's Get hands back. -/
def GivesRGet (w : World) (b : Option Bk.P) (e : Ending) (w' : World) : Prop := e = .returned (.tuple #[.agg (Bk.cells (b.getD Bk.zeroE)).toArray, .bool b.isSome]) ∧ Below w.heap.size w w'
theorem rget_boxes (w : World) : Holds ((w.alloc (.cells #[Value.string ⟨#[]⟩, .int .i64 0, .bool false, .slice none 0 0] 24)).alloc (.cells #[Value.string ⟨#[]⟩, .int .i64 0, .bool false, .slice none 0 0] 24)) w.heap.size (Bk.cells Bk.zeroE) ∧ Holds ((w.alloc (.cells #[Value.string ⟨#[]⟩, .int .i64 0, .bool false, .slice none 0 0] 24)).alloc (.cells #[Value.string ⟨#[]⟩, .int .i64 0, .bool false, .slice none 0 0] 24)) (w.heap.size + 1) (Bk.cells Bk.zeroE) ∧ Below w.heap.size w ((w.alloc (.cells #[Value.string ⟨#[]⟩, .int .i64 0, .bool false, .slice none 0 0] 24)).alloc (.cells #[Value.string ⟨#[]⟩, .int .i64 0, .bool false, .slice none 0 0] 24)) := by
  have h1 := Holds.new w #[Value.string ⟨#[]⟩, .int .i64 0, .bool false, .slice none 0 0] 24
  have h2 := Holds.new (w.alloc (.cells #[Value.string ⟨#[]⟩, .int .i64 0, .bool false, .slice none 0 0] 24)) #[Value.string ⟨#[]⟩, .int .i64 0, .bool false, .slice none 0 0] 24
  rw [World.size_alloc] at h2
  exact ⟨h1.alloc _, h2, ((Below.refl _ _).alloc (Nat.le_refl _) _).alloc (by simp) _⟩
/-- How it stands between two rounds. -/
structure RGet (w wr : World) (b : Option Bk.P) : Prop where
  res : Holds wr w.heap.size (Bk.cells Bk.zeroE)
  best : Holds wr (w.heap.size + 1) (Bk.cells (b.getD Bk.zeroE))
  below : Below w.heap.size w wr
theorem RGet.drewN {w wr : World} {b : Option Bk.P} (h : RGet w wr b) (n : Nat) : RGet w (wr.drewN n) b :=
  ⟨h.res.below (below_drewN (Below.refl _ _) n), h.best.below (below_drewN (Below.refl _ _) n), below_drewN h.below n⟩
theorem RGet.set {w wr : World} {b : Option Bk.P} (h : RGet w wr b) (y : Bk.P) : RGet w ((((wr.setCell ⟨w.heap.size + 1, 0, none⟩ (.string y.1.key)).setCell ⟨w.heap.size + 1, 1, none⟩ (.int .i64 y.1.seq)).setCell ⟨w.heap.size + 1, 2, none⟩ (.bool y.1.del)).setCell ⟨w.heap.size + 1, 3, none⟩ (.slice y.2.1 y.2.2.1 y.2.2.2)) (some y) :=
  ⟨holds_other4 h.res _ _ _ _ (by omega), h.best.set4 _ _ _ _, below_set4 h.below _ _ _ _ _ (by omega)⟩
set_option maxRecDepth 100000 in
set_option maxHeartbeats 8000000 in
theorem rget_any (A : Option Addr) (n c : Nat) (es : List Bk.P) (key : ByteArray) (seq : Int) (w : World) (hr : RdE w A n es) (hn : n ≤ 100000) : Calls Try.prog 24 #[.slice A n c, .string key, .int .i64 seq] w (GivesRGet w (Bk.best key seq es)) := by
  obtain ⟨bb, hbb⟩ : ∃ bb, bb = Bk.best key seq es := ⟨_, rfl⟩
  rw [← hbb]
  have HBB := Lib.hid hbb
  clear hbb
  have HR := Lib.hid hr
  have HL := Lib.hid hr.1
  clear hr
  have HZ := Lib.hid (rget_boxes w)
  go_enter Try.func24, Try.ntmps24
  go_wp2_with fail
  generalize ((w.alloc (.cells #[Value.string ⟨#[]⟩, .int .i64 0, .bool false, .slice none 0 0] 24)).alloc (.cells #[Value.string ⟨#[]⟩, .int .i64 0, .bool false, .slice none 0 0] 24)) = v at HZ ⊢
  go_loopw [9, 10] (fun d ii wr => ∃ (k : Nat) (t : Bool), k ≤ n ∧ ii = .int .i64 (k : Int) ∧ d = .bool t ∧ Hid (t = (Bk.best key seq (es.take k)).isSome) ∧ Hid (RGet w wr (Bk.best key seq (es.take k)))) (fun _ ii _ => n - (intOf ii).toNat)
  case atStart => exact ⟨0, false, by omega, rfl, rfl, Lib.hid rfl, Lib.hid ⟨HZ.out.1, HZ.out.2.1, HZ.out.2.2⟩⟩
  case round =>
    rename_i wr hrel
    obtain ⟨k, t, hk, rfl, rfl, HT, HG⟩ := hrel
    by_cases hlt : k < n
    · have hki : (k : Int) < (n : Int) := by omega
      obtain ⟨y, hy⟩ : ∃ y, es[k]? = some y := ⟨_, List.getElem?_eq_getElem (by rw [HL.out]; omega)⟩
      obtain ⟨g, o, rfl, hbl, hcell⟩ := HR.out.at_ hy
      have HS := Lib.hid (Bk.best_snoc (key := key) (seq := seq) hy)
      clear hy
      generalize hb : Bk.best key seq (es.take k) = b at HT HG HS
      clear hb
      obtain ⟨⟨key2, seq2, del2, val2⟩, V2, n2, c2⟩ := y
      have c0 := (HG.out.below.cell (p := ⟨g, o + k * 4, none⟩) hbl).trans (hcell 0 _ rfl)
      have c1 := (HG.out.below.cell (p := ⟨g, o + k * 4 + 1, none⟩) hbl).trans (hcell 1 _ rfl)
      have c2' := (HG.out.below.cell (p := ⟨g, o + k * 4 + 2, none⟩) hbl).trans (hcell 2 _ rfl)
      have c3 := (HG.out.below.cell (p := ⟨g, o + k * 4 + 3, none⟩) hbl).trans (hcell 3 _ rfl)
      have HCell := Lib.hid hcell
      have hin := Lib.hid hbl
      clear hcell hbl
      by_cases hkk : key2 = key
      case neg =>
        have HN := Lib.hid (HS.out.trans (Bk.bstep_no (fun e => hkk e.1)))
        have e1 := byt_other hkk
        have e2 := byt_ne hkk
        clear hkk c2' c3
        go_wp2_with fail
        go_quiet (fail)
        go_wp2
        go_roundw
        case rel => exact ⟨k + 1, _, by omega, by go_num, rfl, Lib.hid (by rw [HN.out]; exact HT.out), Lib.hid (by rw [HN.out]; exact HG.out.drewN nq)⟩
        case measure => simp [intOf]; omega
      case pos =>
        subst hkk
        have e1 := byt_same key2
        by_cases hss : seq2 ≤ seq
        case neg =>
          have HN := Lib.hid (HS.out.trans (Bk.bstep_no (fun e => hss e.2.1)))
          have d1 : decide (seq2 ≤ seq) = false := decide_eq_false hss
          clear c2' c3
          go_wp2_with fail
          go_quiet (fail)
          go_wp2
          go_roundw
          case rel => exact ⟨k + 1, _, by omega, by go_num, rfl, Lib.hid (by rw [HN.out]; exact HT.out), Lib.hid (by rw [HN.out]; exact HG.out.drewN nq)⟩
          case measure => simp [intOf]; omega
        case pos =>
          have d1 : decide (seq2 ≤ seq) = true := decide_eq_true hss
          cases b with
          | none =>
            have HN := Lib.hid (HS.out.trans (Bk.bstep_yes ⟨rfl, hss, fun z e => by cases e⟩))
            have ht : t = false := HT.out
            subst ht
            clear hss
            have p0 := HG.out.best.2.1 0 _ rfl
            go_wp2_with fail
            go_quiet (fail)
            have HGq := Lib.hid (HG.out.drewN nq)
            clear p0
            have c0 := (HGq.out.below.cell (p := ⟨g, o + k * 4, none⟩) hin.out).trans (HCell.out 0 _ rfl)
            have c1 := (HGq.out.below.cell (p := ⟨g, o + k * 4 + 1, none⟩) hin.out).trans (HCell.out 1 _ rfl)
            have c2' := (HGq.out.below.cell (p := ⟨g, o + k * 4 + 2, none⟩) hin.out).trans (HCell.out 2 _ rfl)
            have c3 := (HGq.out.below.cell (p := ⟨g, o + k * 4 + 3, none⟩) hin.out).trans (HCell.out 3 _ rfl)
            generalize (World.drewN wr nq) = u at HGq c0 c1 c2' c3 ⊢
            have p0 := HGq.out.best.2.1 0 _ rfl
            have p1 := HGq.out.best.2.1 1 _ rfl
            have p2 := HGq.out.best.2.1 2 _ rfl
            have p3 := HGq.out.best.2.1 3 _ rfl
            have p4 := HGq.out.best.2.2
            go_wp2
            go_roundw
            case rel => exact ⟨k + 1, true, by omega, by go_num, rfl, Lib.hid (by rw [HN.out]; rfl), Lib.hid (by rw [HN.out]; exact HGq.out.set (⟨key2, seq2, del2, val2⟩, V2, n2, c2))⟩
            case measure => simp [intOf]; omega
          | some z =>
            have ht : t = true := HT.out
            subst ht
            obtain ⟨⟨zk, zs, zd, zv⟩, zV, zn, zc⟩ := z
            have b1 : wr.cell? ⟨w.heap.size + 1, 1, none⟩ = some (.int .i64 zs) := HG.out.best.2.1 1 _ rfl
            by_cases hzs : zs < seq2
            · have HN := Lib.hid (HS.out.trans (Bk.bstep_yes ⟨rfl, hss, fun z e => by injection e with e; subst e; exact hzs⟩))
              have d2 : decide (zs < seq2) = true := decide_eq_true hzs
              clear hss hzs
              have p0 := HG.out.best.2.1 0 _ rfl
              go_wp2_with fail
              go_quiet (fail)
              have HGq := Lib.hid (HG.out.drewN nq)
              clear p0
              have c0 := (HGq.out.below.cell (p := ⟨g, o + k * 4, none⟩) hin.out).trans (HCell.out 0 _ rfl)
              have c1 := (HGq.out.below.cell (p := ⟨g, o + k * 4 + 1, none⟩) hin.out).trans (HCell.out 1 _ rfl)
              have c2' := (HGq.out.below.cell (p := ⟨g, o + k * 4 + 2, none⟩) hin.out).trans (HCell.out 2 _ rfl)
              have c3 := (HGq.out.below.cell (p := ⟨g, o + k * 4 + 3, none⟩) hin.out).trans (HCell.out 3 _ rfl)
              generalize (World.drewN wr nq) = u at HGq c0 c1 c2' c3 ⊢
              have p0 := HGq.out.best.2.1 0 _ rfl
              have p1 := HGq.out.best.2.1 1 _ rfl
              have p2 := HGq.out.best.2.1 2 _ rfl
              have p3 := HGq.out.best.2.1 3 _ rfl
              have p4 := HGq.out.best.2.2
              go_wp2
              go_roundw
              case rel => exact ⟨k + 1, true, by omega, by go_num, rfl, Lib.hid (by rw [HN.out]; rfl), Lib.hid (by rw [HN.out]; exact HGq.out.set (⟨key2, seq2, del2, val2⟩, V2, n2, c2))⟩
              case measure => simp [intOf]; omega
            · have HN := Lib.hid (HS.out.trans (Bk.bstep_no (fun e => hzs (e.2.2 _ rfl))))
              have d2 : decide (zs < seq2) = false := decide_eq_false hzs
              clear c2' c3 hss hzs
              go_wp2_with fail
              go_quiet (fail)
              go_wp2
              go_roundw
              case rel => exact ⟨k + 1, _, by omega, by go_num, rfl, Lib.hid (by rw [HN.out]; exact HT.out), Lib.hid (by rw [HN.out]; exact HG.out.drewN nq)⟩
              case measure => simp [intOf]; omega
    · have hkn : k = n := by omega
      subst hkn
      have HE := Lib.hid (show RGet w wr bb ∧ t = bb.isSome by
        rw [HBB.out]
        have h1 := HG.out
        have h2 := HT.out
        rw [List.take_of_length_le (by rw [HL.out]; omega)] at h1 h2
        exact ⟨h1, h2⟩)
      clear HG HT
      have hnk : ¬ (k : Int) < (k : Int) := by omega
      clear hlt
      have ht := HE.out.2
      subst ht
      have HG := Lib.hid HE.out.1
      clear HE
      obtain ⟨⟨⟨qk, qs, qd, qv⟩, qV, qn, qc⟩, hq⟩ : ∃ q : Bk.P, bb.getD Bk.zeroE = q := ⟨_, rfl⟩
      have HB1 : Hid (Holds wr (w.heap.size + 1) [.string qk, .int .i64 qs, .bool qd, .slice qV qn qc]) := Lib.hid (by have h := HG.out.best; rw [hq] at h; exact h)
      have HRz : Hid (Holds wr w.heap.size [.string ⟨#[]⟩, .int .i64 0, .bool false, .slice none 0 0]) := Lib.hid HG.out.res
      have HQ := Lib.hid hq
      clear hq
      have b0 := HB1.out.2.1 0 _ rfl
      have b1 := HB1.out.2.1 1 _ rfl
      have b2 := HB1.out.2.1 2 _ rfl
      have b3 := HB1.out.2.1 3 _ rfl
      have r0 := HRz.out.2.1 0 _ rfl
      have r1 := HRz.out.2.1 1 _ rfl
      have r2 := HRz.out.2.1 2 _ rfl
      have r3 := HRz.out.2.1 3 _ rfl
      have r4 := HRz.out.2.2
      go_wp2
      clear b0 b1 b2 b3 r0 r1 r2 r3 r4
      have hE := HRz.out.set4 (.string qk) (.int .i64 qs) (.bool qd) (.slice qV qn qc)
      have hBl := below_set4 HG.out.below w.heap.size (.string qk) (.int .i64 qs) (.bool qd) (.slice qV qn qc) (Nat.le_refl _)
      generalize ((((wr.setCell ⟨w.heap.size, 0, none⟩ (.string qk)).setCell ⟨w.heap.size, 1, none⟩ (.int .i64 qs)).setCell ⟨w.heap.size, 2, none⟩ (.bool qd)).setCell ⟨w.heap.size, 3, none⟩ (.slice qV qn qc)) = u at hE hBl ⊢
      have t0 := hE.2.1 0 _ rfl
      have t1 := hE.2.1 1 _ rfl
      have t2 := hE.2.1 2 _ rfl
      have t3 := hE.2.1 3 _ rfl
      refine bodyPost_ret (v := .tuple #[.agg #[.string qk, .int .i64 qs, .bool qd, .slice qV qn qc], .bool bb.isSome]) (by simp [results, Try.results24, go_sem, t0, t1, t2, t3]) rfl ⟨by rw [HQ.out]; rfl, hBl⟩
end Go.Proofs.Ytfmbnoafmnbhcaa
