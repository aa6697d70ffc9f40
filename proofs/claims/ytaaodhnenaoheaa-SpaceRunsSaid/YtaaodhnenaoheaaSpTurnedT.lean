/- The document's turned: plots that are given. -/
import Derived.Test.YtaaodhnenaoheaaSpTurned
namespace Go.Proofs.Ytaaodhnenaoheaa
open Go.RowKit Sp
set_option linter.unusedVariables false
set_option maxRecDepth 100000 in
set_option maxHeartbeats 4000000 in
theorem turned_true (A : Option Addr) (n cap : Nat) (T : List Bool) (P : Option Addr) (m c : Nat) (ps : List (Int × Int)) (w : World) (h : RdT w A n T) (hn : n ≤ 511) (hr : RdC 2 w P m (iv (flat ps))) (hm : ps.length = m) (hbig : m ≤ 1000) :
    Calls Try.prog 34 #[.agg #[.slice A n cap], .slice P m c, .bool true, .int .i64 62] w (GivesDoc w A T (turnAll true 62 T (flat ps))) := by
  have hlen := h.len
  subst hlen
  have hpl := fun (v : World) (hv : Below w.heap.size w v) => plotsof_any P m c ps v (hr.below hv) hm hbig
  have HPl := Lib.hid hpl
  have H := Lib.hid h
  have hfl : (flat ps).length ≤ 2000 := by rw [flat_length]; omega
  clear hpl h hr hm
  generalize flat ps = l at *
  have hMp : 31 = 31 := rfl
  have hO3 : OwnV (((w.alloc (.cells #[.slice A T.length cap] 31)).alloc (.cells #[.slice none 0 0] 31)).alloc (.cells #[] 4)) (w.heap.size + 1 + 1) 4 (some ⟨w.heap.size + 1 + 1, 0, none⟩) 0 0 [] := by
    have := OwnV.lit (base := w.heap.size + 1 + 1) ((w.alloc (.cells #[.slice A T.length cap] 31)).alloc (.cells #[.slice none 0 0] 31)) 4 [] (by simp) (by simp)
    rw [show ((w.alloc (.cells #[.slice A T.length cap] 31)).alloc (.cells #[.slice none 0 0] 31)).heap.size = w.heap.size + 1 + 1 by simp] at this
    exact this
  have hB3 : Below w.heap.size w (((w.alloc (.cells #[.slice A T.length cap] 31)).alloc (.cells #[.slice none 0 0] 31)).alloc (.cells #[] 4)) := (((Below.refl _ _).alloc (Nat.le_refl _) _).alloc (by simp) _).alloc (by simp; omega) _
  have hR3 := H.out.below hB3
  have k4 : Holds (((w.alloc (.cells #[.slice A T.length cap] 31)).alloc (.cells #[.slice none 0 0] 31)).alloc (.cells #[] 4)) w.heap.size [.slice A T.length cap] := ((Holds.new w #[.slice A T.length cap] 31).alloc _).alloc _
  have k8 : Holds (((w.alloc (.cells #[.slice A T.length cap] 31)).alloc (.cells #[.slice none 0 0] 31)).alloc (.cells #[] 4)) (w.heap.size + 1) [.slice none 0 0] := by
    have := (Holds.new (w.alloc (.cells #[.slice A T.length cap] 31)) #[.slice none 0 0] 31).alloc (.cells #[] 4)
    rw [show (w.alloc (.cells #[.slice A T.length cap] 31)).heap.size = w.heap.size + 1 by simp] at this
    exact this
  have hs3 : w.heap.size + 1 + 1 ≤ (((w.alloc (.cells #[.slice A T.length cap] 31)).alloc (.cells #[.slice none 0 0] 31)).alloc (.cells #[] 4)).heap.size := by simp
  have hl3 : 0 + T.length ≤ 1000000 := by omega
  have K4 := Lib.hid k4
  have K8 := Lib.hid k8
  have HB3 := Lib.hid hB3
  clear hMp k4 k8 hB3
  go_enter Try.func34, Try.ntmps34
  go_wp2_with (first | (at_builtin; refine wpList_appV oneB rfl (.tmp 13) (.tmp 15) rfl rfl hO3 A T.length cap (bl T) (bl_one T) rfl hR3 hl3 hs3 ?_; intro A3 c3 v3 hg3; rw [Nat.zero_add] at *))
  have hown := hg3.own
  rw [List.nil_append] at hown
  obtain ⟨g, hA3, hg2⟩ : ∃ g, A3 = some ⟨g, 0, none⟩ ∧ w.heap.size + 1 + 1 ≤ g := by
    rcases hg3.blk with e | e
    · exact ⟨_, own_some hown e, Nat.le_refl _⟩
    · exact ⟨_, own_some hown e, hs3⟩
  subst hA3
  have hg4 : g < v3.heap.size := (hown.blk g rfl).2
  have hs3v : w.heap.size + 1 + 1 ≤ v3.heap.size := Nat.le_trans hs3 hg3.grew.size
  have hBv3 : Below w.heap.size w v3 := hg3.below HB3.out (by omega) (fun b e => by simp [Value.ownBlock] at e; omega)
  have k4 := K4.out.grown hg3.grew (fun e => by injection e with e; simp at e; omega)
  have k8 := K8.out.grown hg3.grew (fun e => by injection e with e; simp at e)
  have hB4 : Below w.heap.size w (v3.alloc (.cells #[.slice (some ⟨g, 0, none⟩) T.length c3] 31)) := hBv3.alloc hBv3.size _
  clear hO3 hR3 hs3 hl3 K4 K8 HB3 hg3
  refine (HPl.out _ hB4).mono ?_
  rintro e v4 ⟨A4, n4, c4, rfl, hO4, hb4⟩
  have hw4 := hB4.trans (hb4.mono hB4.size)
  have hn4 := hO4.1
  subst hn4
  have k4 := (k4.alloc (.cells #[.slice (some ⟨g, 0, none⟩) T.length c3] 31)).below hb4
  have k8 := (k8.alloc (.cells #[.slice (some ⟨g, 0, none⟩) T.length c3] 31)).below hb4
  have k10 := (Holds.new v3 #[.slice (some ⟨g, 0, none⟩) T.length c3] 31).below hb4
  have hown := (hown.alloc (.cells #[.slice (some ⟨g, 0, none⟩) T.length c3] 31)).below hb4
  have hz4 : v3.heap.size + 1 ≤ v4.heap.size := by have := hb4.size; simp at this; omega
  have hrd4 := hO4.rd
  have hfar : ∀ b o, A4 = some ⟨b, o, none⟩ → b ≠ g := fun b o e => by
    have := (hO4.blk b (by rw [e]; rfl)).1
    simp at this
    omega
  have K4 := Lib.hid k4
  have K8 := Lib.hid k8
  have K10 := Lib.hid k10
  have HFar := Lib.hid hfar
  have HRd4 := Lib.hid hrd4
  have HW4 := Lib.hid hw4
  clear hO4 hb4 hB4 hBv3 k4 k8 k10 hfar hrd4 hw4
  go_wp2_with fail
  go_loopw [12] (fun i wr => ∃ (k : Nat) (Tk : List Bool), k ≤ l.length ∧ i = .int .i64 (k : Int) ∧ Tk.length = T.length ∧ OwnV wr (w.heap.size + 1 + 1) 4 (some ⟨g, 0, none⟩) T.length c3 (bl Tk) ∧ Ch g v4 wr ∧ Hid (turnAll true 62 T l = turnAll true 62 Tk (l.drop k))) (fun i _ => l.length - (intOf i).toNat)
  case atStart => exact ⟨0, T, by omega, rfl, rfl, hown, Ch.refl _ _, Lib.hid rfl⟩
  case round =>
    clear hown
    obtain ⟨k, Tk, hk, rfl, hTk, hO, hC, hS⟩ := hrel
    have q4 := (K4.out.ch hC (by omega)).at_ 0 rfl
    have k8 := K8.out.ch hC (by omega)
    have q8 := k8.at_ 0 rfl
    have r8 := k8.2.2 0
    have q10 := (K10.out.ch hC (by omega)).at_ 0 rfl
    have hwr : Below w.heap.size w wr := hC.below HW4.out (by omega) HW4.out.size
    have hwe : Below w.heap.size w (wr.setCell ⟨w.heap.size + 1, 0, none⟩ (.slice A T.length cap)) := hwr.setCell (by simp) _
    have s8 := fun x => World.cell?_setCell_same wr ⟨w.heap.size + 1, 0, none⟩ x q8
    have S8 := Lib.hid s8
    have HWr := Lib.hid hwr
    have HWe := Lib.hid hwe
    clear k8 s8 hwr hwe
    by_cases hkn : k < l.length
    · have hki : (k : Int) < (l.length : Int) := by omega
      obtain ⟨b, o, rfl, hb, hcells⟩ := HRd4.out.2 (by omega)
      have hx : l[k]? = some l[k] := List.getElem?_eq_getElem hkn
      have hdrop : l.drop k = l[k] :: l.drop (k + 1) := List.drop_eq_getElem_cons hkn
      generalize l[k] = x at hx hdrop
      have cx : wr.cell? ⟨b, o + k, none⟩ = some (.int .i64 x) := (hC.cell (p := ⟨b, o + k, none⟩) hb (HFar.out b o rfl)).trans (hcells k x hx)
      have hS2 := hS.out
      rw [hdrop] at hS2
      clear hcells hx hdrop hS
      by_cases hout : x < 0 ∨ (Tk.length : Int) ≤ x
      · rw [turnAll_no (turn1_out hout) (by decide)] at hS2
        have HS2 := Lib.hid hS2
        rw [hTk] at hout
        clear hS2
        rcases hout with hx0 | hx0
        · go_wp2_with fail
          go_region
          go_wp2_with fail
          refine bodyPost_ret (v := .tuple #[.agg #[.slice A T.length cap], .int .i64 5]) (by simp [results, Try.results34, go_sem, S8.out]) rfl ?_
          rw [HS2.out]
          exact ⟨A, T.length, cap, rfl, H.out.below (by first | exact HWe.out.drew | exact HWe.out.drew.drew), .inl rfl, by first | exact HWe.out.drew | exact HWe.out.drew.drew⟩
        · obtain ⟨y, rfl⟩ := Int.eq_ofNat_of_zero_le (show 0 ≤ x by omega)
          have hx1 : ¬ (y : Int) < 0 := by omega
          go_wp2_with fail
          go_region
          all_goals
            go_wp2_with fail
            refine bodyPost_ret (v := .tuple #[.agg #[.slice A T.length cap], .int .i64 5]) (by simp [results, Try.results34, go_sem, S8.out]) rfl ?_
            rw [HS2.out]
            exact ⟨A, T.length, cap, rfl, H.out.below (by first | exact HWe.out.drew | exact HWe.out.drew.drew), .inl rfl, by first | exact HWe.out.drew | exact HWe.out.drew.drew⟩
      · rw [hTk] at hout
        obtain ⟨y, rfl⟩ := Int.eq_ofNat_of_zero_le (show 0 ≤ x by omega)
        have hy : y < T.length := by omega
        have hy1 : ¬ (y : Int) < 0 := by omega
        have hy2 : (y : Int) < (T.length : Int) := by omega
        have hy3 : (0 : Int) ≤ (y : Int) := by omega
        have cy := hO.cell (bl_at (T := Tk) (k := y) (by omega))
        have ry := hO.free y
        cases ht : Tk.getD y false with
        | true =>
          rw [turnAll_ok (turn1_yes (by omega) ht)] at hS2
          rw [ht] at cy
          have HS2 := Lib.hid hS2
          have hOn := (hO.set y (.bool (!true))).drew
          rw [← bl_set] at hOn
          have hgs := hC.trans (Ch.set g y wr (.bool (!true)))
          have HGs := Lib.hid hgs
          clear hS2 ht hout hgs
          go_wp2_with fail
          go_region
          all_goals
            go_wp2_with fail
            go_region
            go_wp2_with fail
            go_region
            go_wp2_with fail
            go_roundw
            case rel => exact ⟨k + 1, _, by omega, by go_num, by rw [List.length_set]; exact hTk, hOn, HGs.out.drew.drew.drew, Lib.hid HS2.out⟩
            case measure => simp [intOf]; omega
        | false =>
          rw [turnAll_no (turn1_no (f := true) (by omega) ht) (by decide)] at hS2
          rw [ht] at cy
          have HS2 := Lib.hid hS2
          clear hS2 ht hout
          go_wp2_with fail
          go_region
          all_goals
            go_wp2_with fail
            go_region
            go_wp2_with fail
            refine bodyPost_ret (v := .tuple #[.agg #[.slice A T.length cap], .int .i64 62]) (by simp [results, Try.results34, go_sem, S8.out]) rfl ?_
            rw [HS2.out]
            exact ⟨A, T.length, cap, rfl, H.out.below (by first | exact HWe.out.drew | exact HWe.out.drew.drew), .inl rfl, by first | exact HWe.out.drew | exact HWe.out.drew.drew⟩
    · have hkn2 : k = l.length := by omega
      subst hkn2
      have hS2 := hS.out
      rw [List.drop_length] at hS2
      have HS2 := Lib.hid hS2
      have hfin : turnAll true 62 Tk [] = (Tk, 0) := rfl
      clear hS2
      go_wp2_with fail
      refine bodyPost_ret (v := .tuple #[.agg #[.slice (some ⟨g, 0, none⟩) T.length c3], .int .i64 0]) (by simp [results, Try.results34, go_sem, S8.out]) rfl ?_
      rw [HS2.out, hfin]
      exact ⟨some ⟨g, 0, none⟩, T.length, c3, rfl, (hO.far (by omega) _).rd, .inr (fun a e => by injection e with e; subst e; simp; omega), HWr.out.setCell (by simp) _⟩

end Go.Proofs.Ytaaodhnenaoheaa
