/- The document's disk: Loose, Flush. -/
import Derived.Test.YtamdihodconjiaaRkNew
import Derived.Test.YtamdihodconjiaaDkLoose
import Derived.Deep.RegionHeld3
namespace Go.Proofs.Ytamdihodconjiaa
open Go.RowKit
set_option linter.unusedVariables false
theorem looseF_snoc (L : List Dk.Sec) (i : Nat) (s : Dk.Sec) : Dk.looseF i (L ++ [s]) = Dk.looseF i L ++ (if s.l = [] then [] else [(i + L.length, s.l.length)]) := by
  induction L generalizing i with
  | nil => show (if s.l = [] then Dk.looseF (i + 1) [] else _) = _; simp [Dk.looseF]
  | cons x r ih =>
    show (if x.l = [] then Dk.looseF (i + 1) (r ++ [s]) else (i, x.l.length) :: Dk.looseF (i + 1) (r ++ [s])) = (if x.l = [] then Dk.looseF (i + 1) r else (i, x.l.length) :: Dk.looseF (i + 1) r) ++ _
    have e : i + 1 + r.length = i + (x :: r).length := by simp; omega
    rw [ih, e]
    by_cases h : x.l = []
    · rw [if_pos h, if_pos h]
    · rw [if_neg h, if_neg h]; rfl
theorem looseF_len (L : List Dk.Sec) (i : Nat) : (Dk.looseF i L).length ≤ L.length := by
  induction L generalizing i with
  | nil => exact Nat.le_refl _
  | cons x r ih =>
    show (if x.l = [] then Dk.looseF (i + 1) r else (i, x.l.length) :: Dk.looseF (i + 1) r).length ≤ _
    have := ih (i + 1)
    by_cases h : x.l = []
    · rw [if_pos h, List.length_cons]; omega
    · rw [if_neg h, List.length_cons, List.length_cons]; omega
theorem loose_step {L : List Dk.Sec} {j : Nat} {s : Dk.Sec} (h : L[j]? = some s) : Dk.looseF 0 (L.take (j + 1)) = Dk.looseF 0 (L.take j) ++ (if s.l = [] then [] else [(j, s.l.length)]) := by
  have hj := (List.getElem?_eq_some_iff.1 h).1
  rw [List.take_add_one, h]
  show Dk.looseF 0 (L.take j ++ [s]) = _
  rw [looseF_snoc, List.length_take, Nat.zero_add, Nat.min_eq_left (by omega)]
set_option maxRecDepth 100000 in
set_option maxHeartbeats 4000000 in
theorem rloose_any (w : World) (g : Nat) (lab : Nat → Tag) (st : Dk.St) (h : IsRef w g lab st) : Calls Try.prog 22 #[.pointer (some ⟨g, 0, none⟩)] w (GivesLoose w st.loose) := by
  obtain ⟨sb, C, h⟩ := h
  have H := Lib.hid h
  have hN := h.fine.2.2
  clear h
  go_enter Try.func22, Try.ntmps22
  go_wp2_with fail
  go_loopw [3, 4] (fun v i wr => ∃ (j n : Nat) (A : Option Addr) (cap : Nat), j ≤ st.s.length ∧ n = (Dk.looseF 0 (st.s.take j)).length ∧ v = .slice A n cap ∧ i = .int .i64 (j : Int) ∧ Hid (OwnC 2 wr w.heap.size 57 A n cap (flat2 (Dk.looseF 0 (st.s.take j)))) ∧ Hid (Below w.heap.size w wr)) (fun _ i _ => st.s.length - (intOf i).toNat)
  case atStart => exact ⟨0, 0, none, 0, by omega, rfl, rfl, rfl, Lib.hid (OwnC.none_ _ _ _ _), Lib.hid (Below.refl _ _)⟩
  case round =>
    obtain ⟨j, n, A, cap, hj, hn, rfl, rfl, HO, HB⟩ := hrel
    have HNn := Lib.hid hn
    have HR := Lib.hid (H.out.below HB.out)
    have c0 := HR.out.box.at_ 0 rfl
    have hbs := HB.out.size
    clear hn
    by_cases hjk : j < st.s.length
    · have hji : (j : Int) < (st.s.length : Int) := by omega
      obtain ⟨s, hs⟩ : ∃ s, st.s[j]? = some s := ⟨_, List.getElem?_eq_getElem hjk⟩
      have HStep := Lib.hid (loose_step hs)
      obtain ⟨c, hc, k0, k1, hsec⟩ := HR.out.at_ hs
      obtain ⟨h2000, B, cp, vs, el, hrd, hlf, hlv⟩ := hsec.l
      rw [el] at k1
      clear hc k0 hsec el hrd hlf hlv hs
      by_cases hl : s.l = []
      · rw [hl] at k1
        rw [if_pos hl, List.append_nil] at HStep
        clear hl h2000
        go_wp2_with fail
        go_roundw
        case rel => exact ⟨j + 1, n, A, cap, by omega, by rw [HStep.out]; exact HNn.out, rfl, by go_num, by rw [HStep.out]; exact HO, HB⟩
        case measure => simp [intOf]; omega
      · rw [if_neg hl] at HStep
        obtain ⟨k, hk⟩ : ∃ k, s.l.length = k := ⟨_, rfl⟩
        have hk0 : (0 : Int) < (k : Int) := by have := List.length_pos_iff.2 hl; omega
        rw [hk] at k1 HStep
        have hki : (k : Int) ≤ 2000 := by omega
        clear hl h2000
        have hle : n ≤ j := by rw [HNn.out]; exact Nat.le_trans (looseF_len _ _) (by rw [List.length_take]; omega)
        have HN2 := Lib.hid (rdc_new 2 wr 57 [.int .i64 (j : Int), .int .i64 (k : Int)] 1 rfl (0, 0))
        have HO2 := Lib.hid (HO.out.alloc (.cells #[.int .i64 (j : Int), .int .i64 (k : Int)] 57))
        have hle1 : n + 1 ≤ 1000000 := by omega
        have hle2 : w.heap.size ≤ (wr.alloc (.cells #[.int .i64 (j : Int), .int .i64 (k : Int)] 57)).heap.size := Nat.le_trans hbs (size_alloc_le _ _)
        have hB2 := Lib.hid (HB.out.alloc hbs (.cells #[.int .i64 (j : Int), .int .i64 (k : Int)] 57))
        have h1c : ∀ u ∈ [Value.int .i64 (j : Int), .int .i64 (k : Int)], u.oneCell' = true := by intro u hu; simp at hu; rcases hu with rfl | rfl <;> rfl
        clear hle hk
        go_upto_region 8 with fail
        go_wp2_with (at_builtin; refine wpList_appC manyL rfl (.tmp 26) (.tmp 38) rfl rfl HO2.out ⟨wr.heap.size, 0, none⟩ 1 1 [.int .i64 (j : Int), .int .i64 (k : Int)] h1c rfl HN2.out hle1 hle2 ?_; intro A' cap' w3 hg3)
        have HB3 := Lib.hid (hg3.below hB2.out hle2 (fun g e => (HO2.out.blk g e).1))
        have ho3 := hg3.own
        have HO3 := Lib.hid ho3
        clear hg3 ho3 k1 c0
        go_roundw
        case rel => exact ⟨j + 1, n + 1, A', cap', by omega, by rw [HStep.out, List.length_append, HNn.out]; rfl, rfl, by go_num, by rw [HStep.out, flat2_snoc]; exact HO3, HB3⟩
        case measure => simp [intOf]; omega
    · have hji : ¬ (j : Int) < (st.s.length : Int) := by omega
      obtain rfl : j = st.s.length := by omega
      have hnl : n = st.loose.length := by have := HNn.out; rw [List.take_length] at this; exact this
      have ho := HO.out
      rw [List.take_length, hnl] at ho
      have HF := Lib.hid ho
      clear ho
      rw [hnl]
      clear hnl
      go_wp2
      go_ret
      exact ⟨A, cap, rfl, HF.out, HB.out⟩
end Go.Proofs.Ytamdihodconjiaa
