/- The document's disk: Loose, Flush. The document's disk: Flush. The document's disk: Write. The document's disk: Write. The document's Fit. -/
import Derived.Test.YtbdomhookjmmgaaRkA
import Derived.Test.YtbdomhookjmmgaaDkD
import Derived.Deep.RegionHeld3
import Derived.Laws.Append
import Derived.Test.YtbdomhookjmmgaaDkC
import Derived.Test.YtbdomhookjmmgaaRg
import Derived.Test.YtbdomhookjmmgaaDkF
import Derived.BigRegion
namespace Go.Proofs.Ytbdomhookjmmgaa
open Go.RowKit
set_option linter.unusedVariables false
theorem looseF_snoc (L : List Dk.Sec) (i : Nat) (s : Dk.Sec) : Dk.looseF i (L ++ [s]) = Dk.looseF i L ++ (if s.l = [] then [] else [(i + L.length, s.l.length)]) := by
  induction L generalizing i with
  | nil => show (if s.l = [] then Dk.looseF (i + 1) [] else _) = _; simp [Dk.looseF]
  | cons x r ih =>
    show (if x.l = [] then Dk.looseF (i + 1) (r ++ [s]) else (i, x.l.length) :: Dk.looseF (i + 1) (r ++ [s])) = (if x.l = [] then Dk.looseF (i + 1) r else (i, x.l.length) :: Dk.looseF (i + 1) r) ++ _
    have e : i + 1 + r.length = i + (x :: r).length := by simp; omega
    rw [ih, e]
    by_cases h : x.l = []
    · rw [if_pos h, if_pos h]
    · rw [if_neg h, if_neg h]; rfl
theorem looseF_len (L : List Dk.Sec) (i : Nat) : (Dk.looseF i L).length ≤ L.length := by
  induction L generalizing i with
  | nil => exact Nat.le_refl _
  | cons x r ih =>
    show (if x.l = [] then Dk.looseF (i + 1) r else (i, x.l.length) :: Dk.looseF (i + 1) r).length ≤ _
    have := ih (i + 1)
    by_cases h : x.l = []
    · rw [if_pos h, List.length_cons]; omega
    · rw [if_neg h, List.length_cons, List.length_cons]; omega
theorem loose_step {L : List Dk.Sec} {j : Nat} {s : Dk.Sec} (h : L[j]? = some s) : Dk.looseF 0 (L.take (j + 1)) = Dk.looseF 0 (L.take j) ++ (if s.l = [] then [] else [(j, s.l.length)]) := by
  have hj := (List.getElem?_eq_some_iff.1 h).1
  rw [List.take_add_one, h]
  show Dk.looseF 0 (L.take j ++ [s]) = _
  rw [looseF_snoc, List.length_take, Nat.zero_add, Nat.min_eq_left (by omega)]
set_option maxRecDepth 100000 in
set_option maxHeartbeats 4000000 in
theorem rloose_any (w : World) (g : Nat) (lab : Nat → Tag) (st : Dk.St) (h : IsRef w g lab st) : Calls Try.prog 34 #[.pointer (some ⟨g, 0, none⟩)] w (GivesLoose w st.loose) := by
  obtain ⟨sb, C, h⟩ := h
  have H := Lib.hid h
  have hN := h.fine.2.2
  clear h
  go_enter Try.func34, Try.ntmps34
  go_wp2_with fail
  go_loopw [3, 4] (fun v i wr => ∃ (j n : Nat) (A : Option Addr) (cap : Nat), j ≤ st.s.length ∧ n = (Dk.looseF 0 (st.s.take j)).length ∧ v = .slice A n cap ∧ i = .int .i64 (j : Int) ∧ Hid (OwnC 2 wr w.heap.size 122 A n cap (flat2 (Dk.looseF 0 (st.s.take j)))) ∧ Hid (Below w.heap.size w wr)) (fun _ i _ => st.s.length - (intOf i).toNat)
  case atStart => exact ⟨0, 0, none, 0, by omega, rfl, rfl, rfl, Lib.hid (OwnC.none_ _ _ _ _), Lib.hid (Below.refl _ _)⟩
  case round =>
    obtain ⟨j, n, A, cap, hj, hn, rfl, rfl, HO, HB⟩ := hrel
    have HNn := Lib.hid hn
    have HR := Lib.hid (H.out.below HB.out)
    have c0 := HR.out.box.at_ 0 rfl
    have hbs := HB.out.size
    clear hn
    by_cases hjk : j < st.s.length
    · have hji : (j : Int) < (st.s.length : Int) := by omega
      obtain ⟨s, hs⟩ : ∃ s, st.s[j]? = some s := ⟨_, List.getElem?_eq_getElem hjk⟩
      have HStep := Lib.hid (loose_step hs)
      obtain ⟨c, hc, k0, k1, hsec⟩ := HR.out.at_ hs
      obtain ⟨h2000, B, cp, vs, el, hrd, hlf, hlv⟩ := hsec.l
      rw [el] at k1
      clear hc k0 hsec el hrd hlf hlv hs
      by_cases hl : s.l = []
      · rw [hl] at k1
        rw [if_pos hl, List.append_nil] at HStep
        clear hl h2000
        go_wp2_with fail
        go_roundw
        case rel => exact ⟨j + 1, n, A, cap, by omega, by rw [HStep.out]; exact HNn.out, rfl, by go_num, by rw [HStep.out]; exact HO, HB⟩
        case measure => simp [intOf]; omega
      · rw [if_neg hl] at HStep
        obtain ⟨k, hk⟩ : ∃ k, s.l.length = k := ⟨_, rfl⟩
        have hk0 : (0 : Int) < (k : Int) := by have := List.length_pos_iff.2 hl; omega
        rw [hk] at k1 HStep
        have hki : (k : Int) ≤ 2000 := by omega
        clear hl h2000
        have hle : n ≤ j := by rw [HNn.out]; exact Nat.le_trans (looseF_len _ _) (by rw [List.length_take]; omega)
        have HN2 := Lib.hid (rdc_new 2 wr 122 [.int .i64 (j : Int), .int .i64 (k : Int)] 1 rfl (0, 0))
        have HO2 := Lib.hid (HO.out.alloc (.cells #[.int .i64 (j : Int), .int .i64 (k : Int)] 122))
        have hle1 : n + 1 ≤ 1000000 := by omega
        have hle2 : w.heap.size ≤ (wr.alloc (.cells #[.int .i64 (j : Int), .int .i64 (k : Int)] 122)).heap.size := Nat.le_trans hbs (size_alloc_le _ _)
        have hB2 := Lib.hid (HB.out.alloc hbs (.cells #[.int .i64 (j : Int), .int .i64 (k : Int)] 122))
        have h1c : ∀ u ∈ [Value.int .i64 (j : Int), .int .i64 (k : Int)], u.oneCell' = true := by intro u hu; simp at hu; rcases hu with rfl | rfl <;> rfl
        clear hle hk
        go_upto_region 8 with fail
        go_wp2_with (at_builtin; refine wpList_appC manyL rfl (.tmp 26) (.tmp 38) rfl rfl HO2.out ⟨wr.heap.size, 0, none⟩ 1 1 [.int .i64 (j : Int), .int .i64 (k : Int)] h1c rfl HN2.out hle1 hle2 ?_; intro A' cap' w3 hg3)
        have HB3 := Lib.hid (hg3.below hB2.out hle2 (fun g e => (HO2.out.blk g e).1))
        have ho3 := hg3.own
        have HO3 := Lib.hid ho3
        clear hg3 ho3 k1 c0
        go_roundw
        case rel => exact ⟨j + 1, n + 1, A', cap', by omega, by rw [HStep.out, List.length_append, HNn.out]; rfl, rfl, by go_num, by rw [HStep.out, flat2_snoc]; exact HO3, HB3⟩
        case measure => simp [intOf]; omega
    · have hji : ¬ (j : Int) < (st.s.length : Int) := by omega
      obtain rfl : j = st.s.length := by omega
      have hnl : n = st.loose.length := by have := HNn.out; rw [List.take_length] at this; exact this
      have ho := HO.out
      rw [List.take_length, hnl] at ho
      have HF := Lib.hid ho
      clear ho
      rw [hnl]
      clear hnl
      go_wp2
      go_ret
      exact ⟨A, cap, rfl, HF.out, HB.out⟩
end Go.Proofs.Ytbdomhookjmmgaa
namespace Go.Proofs.Ytbdomhookjmmgaa
open Go.RowKit
set_option linter.unusedVariables false
/-- The first j sectors are fixed. -/
def fixedTo (L : List Dk.Sec) (j : Nat) : List Dk.Sec := Dk.fixed (L.take j) ++ L.drop j
theorem fixedTo_len (L : List Dk.Sec) (j : Nat) : (fixedTo L j).length = L.length := by
  unfold fixedTo Dk.fixed
  rw [List.length_append, List.length_map, List.length_take, List.length_drop]
  omega
theorem fixedTo_at {L : List Dk.Sec} {j : Nat} {s : Dk.Sec} (h : L[j]? = some s) : (fixedTo L j)[j]? = some s := by
  have hj := (List.getElem?_eq_some_iff.1 h).1
  unfold fixedTo Dk.fixed
  rw [List.getElem?_append_right (by rw [List.length_map, List.length_take]; omega), List.length_map, List.length_take, Nat.min_eq_left (by omega), Nat.sub_self, List.getElem?_drop]
  exact h
theorem fixedTo_get {L : List Dk.Sec} {j i : Nat} (hj : j ≤ L.length) : (fixedTo L j)[i]? = if i < j then (L[i]?).map (fun s => ⟨s.now, []⟩) else L[i]? := by
  have hl : (List.map (fun s : Dk.Sec => (⟨s.now, []⟩ : Dk.Sec)) (L.take j)).length = j := by rw [List.length_map, List.length_take]; omega
  unfold fixedTo Dk.fixed
  by_cases h1 : i < j
  · rw [if_pos h1, List.getElem?_append_left (by omega), List.getElem?_map, List.getElem?_take, if_pos h1]
  · rw [if_neg h1, List.getElem?_append_right (by omega), hl, List.getElem?_drop, show j + (i - j) = i by omega]
theorem fixedTo_step {L : List Dk.Sec} {j : Nat} {s : Dk.Sec} (h : L[j]? = some s) : fixedTo L (j + 1) = Dk.upd (fixedTo L j) j (fun t => ⟨t.now, []⟩) := by
  have hj := (List.getElem?_eq_some_iff.1 h).1
  unfold Dk.upd
  apply List.ext_getElem?
  intro i
  rw [List.getElem?_modify, fixedTo_get (by omega), fixedTo_get (by omega)]
  by_cases h1 : i < j
  · rw [if_pos (by omega), if_pos h1]
    cases L[i]? with
    | none => rfl
    | some t => simp [show j ≠ i by omega]
  · by_cases h2 : i = j
    · subst h2
      rw [if_pos (by omega), if_neg h1, h]
      simp
    · rw [if_neg (by omega), if_neg h1]
      cases L[i]? with
      | none => rfl
      | some t => simp [show j ≠ i by omega]
theorem fixedTo_all (L : List Dk.Sec) : fixedTo L L.length = Dk.fixed L := by unfold fixedTo; rw [List.take_length, List.drop_length, List.append_nil]
theorem now_none {s : Dk.Sec} (h : s.l = []) : (⟨s.now, []⟩ : Dk.Sec) = s := by
  obtain ⟨f, l⟩ := s
  have h : l = [] := h
  subst h
  rfl
theorem upd_fix {L : List Dk.Sec} {j : Nat} {s : Dk.Sec} {G : Dk.Sec → Dk.Sec} (h : L[j]? = some s) (e : G s = s) : Dk.upd L j G = L := by
  unfold Dk.upd
  apply List.ext_getElem?
  intro i
  rw [List.getElem?_modify]
  by_cases e2 : j = i
  · subst e2
    rw [h]
    simp [e]
  · cases L[i]? <;> simp [e2]
theorem LeftR.refl {lab : Nat → Tag} {g : Nat} {st : Dk.St} {w : World} (h : IsRef w g lab st) : LeftR lab g st w w := ⟨lab, h, Chg.refl _ _, Lab.refl _ _⟩
set_option maxRecDepth 100000 in
set_option maxHeartbeats 4000000 in
theorem rflush_any (w : World) (g : Nat) (lab : Nat → Tag) (st : Dk.St) (h : IsRef w g lab st) (h1 : 0 ≤ st.n ∧ st.n ≤ 1000 ∧ 0 ≤ st.left ∧ st.left ≤ 1048576) :
    Calls Try.prog 38 #[.pointer (some ⟨g, 0, none⟩)] w fun e w' => e = .returned (.int .i64 st.flushE) ∧ LeftR lab g st.flush w w' := by
  have HD := Lib.hid (rdown_any w g lab st h)
  have HSf := Lib.hid (LeftR.refl h)
  have H := Lib.hid h
  have H1 := Lib.hid h1
  cases hd : st.down
  · rw [hd] at HD
    have e1 : st.flushE = 0 := by unfold Dk.St.flushE; rw [hd]; rfl
    have e2 : st.flush = Dk.St.burn ⟨Dk.fixed st.s, st.n, st.fused, st.left⟩ := by unfold Dk.St.flush; rw [e1]; rfl
    rw [e1, e2]
    have Hd := Lib.hid hd
    have HN := Lib.hid (show st.s.length ≤ 4096 by obtain ⟨_, _, h⟩ := h; exact h.fine.2.2)
    clear e1 e2 hd h h1
    go_enter Try.func38, Try.ntmps38
    go_wp2_with (refine HD.out.mono ?_; rintro e w' ⟨rfl, rfl⟩)
    go_loopw [3] (fun i wr => ∃ j : Nat, j ≤ st.s.length ∧ i = .int .i64 (j : Int) ∧ Hid (LeftR lab g ⟨fixedTo st.s j, st.n, st.fused, st.left⟩ w wr)) (fun i _ => st.s.length - (intOf i).toNat)
    case atStart => exact ⟨0, by omega, rfl, by unfold fixedTo; exact HSf⟩
    case round =>
      obtain ⟨j, hj, rfl, HL⟩ := hrel
      obtain ⟨lab1, ⟨sb, C, hR⟩, hC, hLb⟩ := HL.out
      have c0 := hR.box.at_ 0 rfl
      have c0' : wr.cell? ⟨g, 0, none⟩ = some (.slice (some ⟨sb, 0, none⟩) st.s.length st.s.length) := by rw [c0]; show some (Value.slice _ (fixedTo st.s j).length _) = _; rw [fixedTo_len]
      have HR := Lib.hid hR
      have HC := Lib.hid hC
      have HLb := Lib.hid hLb
      have hnn := HN.out
      clear hR hC hLb c0
      by_cases hjk : j < st.s.length
      · have hji : (j : Int) < (st.s.length : Int) := by omega
        obtain ⟨s, hs⟩ : ∃ s, st.s[j]? = some s := ⟨_, List.getElem?_eq_getElem hjk⟩
        have HStep := Lib.hid (fixedTo_step hs)
        have hat : (fixedTo st.s j)[j]? = some s := fixedTo_at hs
        have HAt := Lib.hid hat
        obtain ⟨c, hc, k0, k1, hsec⟩ := HR.out.at_ hat
        obtain ⟨h2000, B, cp, vs, el, hrd, hlf, hlv⟩ := hsec.l
        rw [el] at k1
        by_cases hl : s.l = []
        · rw [hl] at k1
          rw [upd_fix hat (now_none hl)] at HStep
          clear hl h2000 hc k0 hsec el hrd hlf hlv hs hat
          go_wp2_with fail
          go_roundw
          case rel => exact ⟨j + 1, by omega, by go_num, by rw [HStep.out]; exact HL⟩
          case measure => simp [intOf]; omega
        · obtain ⟨k, hk⟩ : ∃ k, s.l.length = k + 1 := ⟨s.l.length - 1, by have := List.length_pos_iff.2 hl; omega⟩
          obtain ⟨b, hb⟩ : ∃ b, s.l[k]? = some b := ⟨_, List.getElem?_eq_getElem (by omega)⟩
          have hnow : s.now = b := last_of hk hb
          obtain ⟨g2, o2, v, rfl, hg2, hv, hcell⟩ := hrd.at_ (k := k) (by omega)
          have hleaf := hlv k v b hv hb
          have HLeaf := Lib.hid hleaf
          obtain ⟨q2, cq2, rfl, hb2, _⟩ := hleaf
          have HNow := Lib.hid hnow
          have HCc := Lib.hid hc
          have Hlist := Lib.hid (And.intro hk hb)
          rw [hk] at k1
          have hki : (k : Int) ≤ 2000 := by omega
          have hk0 : (0 : Int) < (k : Int) + 1 := by omega
          have frz0 := HR.out.row.2.2 (j * 2)
          have frz1 := HR.out.row.2.2 (j * 2 + 1)
          clear hl h2000 hc hsec el hrd hlf hlv hs hat hk hb hnow hv hb2
          go_upto_region 10 with fail
          go_region
          all_goals
            go_wp2_with fail
            go_roundw
            case rel =>
              have hU := HR.out.upd (w2 := wr) (c' := ⟨.slice (some ⟨q2, 0, none⟩) 128 cq2, nilV⟩) (G := fun t => ⟨t.now, []⟩) (Below.refl _ _) ((Ch1.set sb (j * 2) wr (.slice (some ⟨q2, 0, none⟩) 128 cq2)).trans (Ch1.set sb (j * 2 + 1) _ (.slice none 0 0))) HAt.out (by
                have := (HR.out.row.set (j * 2) (.slice (some ⟨q2, 0, none⟩) 128 cq2) (by rw [flatR_length]; have := (List.getElem?_eq_some_iff.1 HCc.out).1; omega)).set (j * 2 + 1) (.slice none 0 0) (by rw [List.length_set, flatR_length]; have := (List.getElem?_eq_some_iff.1 HCc.out).1; omega)
                rw [flatR_set C j _ (List.getElem?_eq_some_iff.1 HCc.out).1]
                exact this) ⟨by show LeafR wr _ _ s.now; rw [HNow.out]; exact HLeaf.out.relab (labN_keep HR.out.old), by simp, none, 0, [], rfl, RdV.nil _ _, by simp, by simp⟩ (by simp [World.setCell]) (fine_upd HR.out.fine HAt.out (by show s.now.length = 128 ∧ _; rw [HNow.out]; exact (HR.out.fine.1 s (List.mem_of_getElem? HAt.out)).2.2 b (List.mem_of_getElem? Hlist.out.2)) (by simp))
              obtain ⟨lab2, k1, k2, k3⟩ := hU
              exact ⟨j + 1, by omega, by go_num, Lib.hid (by rw [HStep.out]; exact ⟨lab2, k1.below (Below.refl _ _).drew, HC.out.trans HLb.out (k2.trans k3 (Chg.of_below (Below.refl _ _).drew)), HLb.out.trans k3 HC.out.size⟩)⟩
            case measure => simp [intOf]; omega
      · have hji : ¬ (j : Int) < (st.s.length : Int) := by omega
        obtain rfl : j = st.s.length := by omega
        rw [fixedTo_all] at HL HR
        have hsn := rdone_any wr g lab1 ⟨Dk.fixed st.s, st.n, st.fused, st.left⟩ ⟨sb, C, HR.out⟩ H1.out Hd.out
        have HDn := Lib.hid hsn
        clear hsn
        go_wp2_with fail
        refine HDn.out.mono ?_
        rintro e w4 ⟨rfl, hl4⟩
        have HL4 := Lib.hid hl4
        clear hl4
        go_wp2
        go_ret
        obtain ⟨lab2, k1, k2, k3⟩ := HL4.out
        exact ⟨rfl, lab2, k1, HC.out.trans HLb.out k2, HLb.out.trans k3 HC.out.size⟩
  · rw [hd] at HD
    have e1 : st.flushE = 30 := by unfold Dk.St.flushE; rw [hd]; rfl
    have e2 : st.flush = st := by unfold Dk.St.flush; rw [e1]; rfl
    rw [e1, e2]
    clear e1 e2 hd h h1
    go_enter Try.func38, Try.ntmps38
    go_wp2_with (refine HD.out.mono ?_; rintro e w' ⟨rfl, rfl⟩)
    go_ret
    exact ⟨rfl, HSf.out⟩
end Go.Proofs.Ytbdomhookjmmgaa
namespace Go.Proofs.Ytbdomhookjmmgaa
open Go.RowKit
set_option linter.unusedVariables false
theorem below_al {w W : World} (h : Below w.heap.size w W) (o : Obj) : Below w.heap.size w (W.alloc o) := h.alloc h.size o
theorem below_dr {w W : World} (h : Below w.heap.size w W) : Below w.heap.size w W.drew := h.drew
structure Stp (X W : World) : Prop where
  out : Below X.heap.size X W
theorem below_st {w X W : World} (h : Below w.heap.size w X) (s : Stp X W) : Below w.heap.size w W := h.trans (s.out.mono h.size)
theorem RdV.al {w : World} {A : Option Addr} {n : Nat} {vs : List Value} (h : RdV w A n vs) (o : Obj) : RdV (w.alloc o) A n vs := h.alloc o
theorem RdV.dr {w : World} {A : Option Addr} {n : Nat} {vs : List Value} (h : RdV w A n vs) : RdV w.drew A n vs := h
theorem RdV.st {w W : World} {A : Option Addr} {n : Nat} {vs : List Value} (h : RdV w A n vs) (s : Stp w W) : RdV W A n vs := h.below s.out
theorem rdv_at {X : World} {g : Nat} (E : TypeId) (v : Value) (h : g = X.heap.size) : RdV (X.alloc (.cells #[v] E)) (some ⟨g, 0, none⟩) 1 [v] := by subst h; exact rdv_one X E v
section
variable {w w' : World} {base n cap : Nat} {A : Option Addr} {vs : List Value} {S E : TypeId} {z : Value} {bytes : Nat}
theorem OwnV.al (h : OwnV w base E A n cap vs) (o : Obj) : OwnV (w.alloc o) base E A n cap vs := h.alloc o
theorem OwnV.dr (h : OwnV w base E A n cap vs) : OwnV w.drew base E A n cap vs := h
theorem OwnV.st (h : OwnV w base E A n cap vs) (s : Stp w w') : OwnV w' base E A n cap vs := h.below s.out
/-- append onto a slice that has no room: all is new. -/
theorem run_app_fresh (O : One S E z bytes) (g : Nat) (B : Option Addr) (m c : Nat) (news : List Value) (hm : 0 < m) (hr : RdV w B m news) (hlen : m ≤ 1000000) (ty : TypeId) :
    ∃ q cap' w', (Builtin.append_ #[S, S] ty #[.slice (some ⟨g, 0, none⟩) 0 0, .slice B m c]).run Try.prog w = .ok (.slice (some ⟨q, 0, none⟩) m cap') w' ∧ w.heap.size ≤ q ∧ q < w'.heap.size ∧ OwnV w' w.heap.size E (some ⟨q, 0, none⟩) m cap' news ∧ Stp w w' := by
  obtain ⟨i0, hi, hz0, hz1, hz2⟩ := info_parts O.info
  obtain ⟨b, o, rfl, hb, hc⟩ := hr.2 hm
  have hnews : ∀ j u, news[j]? = some u → w.cell? ((⟨b, o, none⟩ : Addr).add j) = some u := by
    intro j u hu
    have e : (⟨b, o, none⟩ : Addr).add j = ⟨b, o + j, none⟩ := by unfold Addr.add; split <;> simp_all
    rw [e]
    exact hc j _ hu
  have hbytes : (0 + m) * i0.bytes ≤ 140737488355328 := by
    have : m * bytes ≤ 1000000 * 100 := Nat.mul_le_mul hlen O.few
    rw [Nat.zero_add, hz2]
    omega
  have hrun := run_append_grow (P := Try.prog) w S ty E i0 z O.under hi hz0 ⟨g, 0, none⟩ 0 0 [] (by simp) (by simp) ⟨b, o, none⟩ m c news (by rw [hr.1, hz1]; omega) hnews (by omega) (by omega) (growslice_fits (by omega) hbytes)
  have hge := grownCap_ge w (0 + m) 0 E
  have hcm : grownCap w (0 + m) 0 E ≤ maxLen := grownCap_le_maxLen w (0 + m) 0 E (by simp only [maxLen]; omega)
  rw [Nat.zero_add] at hrun hge hcm
  refine ⟨w.heap.size, _, _, hrun, Nat.le_refl _, by simp, ⟨hr.1, ?_⟩, ?_⟩
  · refine ⟨by rw [hr.1]; omega, .inr ⟨w.heap.size, _, _, rfl, Nat.le_refl _, heap_alloc_new w.drew _, hge, hcm, ?_, ?_⟩⟩
    · simp only [Array.size_append, List.size_toArray, size_zeroCells, O.zero, hr.1, List.length_nil]
      simp
      omega
    · simp only [Array.toList_append, List.append_assoc]
      rw [List.nil_append, Nat.mul_one, ← hr.1]
      exact List.take_left
  · exact ⟨(Below.refl _ _).drew.alloc (Nat.le_refl _) _⟩
theorem run_app_none (O : One S E z bytes) (g : Nat) (B : Option Addr) (c : Nat) (ty : TypeId) :
    (Builtin.append_ #[S, S] ty #[.slice (some ⟨g, 0, none⟩) 0 0, .slice B 0 c]).run Try.prog w = .ok (.slice (some ⟨g, 0, none⟩) 0 0) w := by
  obtain ⟨i0, hi, hz0, hz1, hz2⟩ := info_parts O.info
  cases B with
  | none => simp [Builtin.append_, run_underlying O.under, sizeOf, typeInfo, hi, Builtin.lenOf, Builtin.firstCells, storeCells]
  | some a => simp [Builtin.append_, run_underlying O.under, sizeOf, typeInfo, hi, Builtin.lenOf, Builtin.firstCells, loadCells, loadCellsFrom, storeCells]
variable {ops : Array Oper} {o : Oper} {a : Act} {K : Act → World → Prop} {Q : Exit → Act → World → Prop} {F : Prop}
theorem step_fresh (O : One S E z bytes) (hw : Region.wanted o (yielded ops a.tmps) = true) (d : Nat) (hd : o.dst = some d) (s x : Operand)
    (ho : o.op = .call { callee := .builtin .append, args := #[s, x], argTypes := #[S, S] }) (g : Nat)
    (hs : a.eval s = .slice (some ⟨g, 0, none⟩) 0 0) (B : Option Addr) (m c : Nat) (news : List Value) (hx : a.eval x = .slice B m c) (hm : 0 < m) (hr : RdV w B m news) (hlen : m ≤ 1000000)
    (h : ∀ q cap' w', w.heap.size ≤ q → q < w'.heap.size → OwnV w' w.heap.size E (some ⟨q, 0, none⟩) m cap' news → Stp w w' → K (a.put (some d) (.slice (some ⟨q, 0, none⟩) m cap')) w') :
    if Region.wanted o (yielded ops a.tmps) = true then Oper.wp Try.prog o a w K Q else F := by
  rw [if_pos hw]
  obtain ⟨q, cap', w', hrun, h1, h2, h3, h4⟩ := run_app_fresh O g B m c news hm hr hlen o.type
  unfold Oper.wp execOp
  simp only [ho, resolve, invoke, builtin, Sem.run_bind, Sem.run_pure, Result.andThen_ok, List.map_toArray, List.map_cons, List.map_nil, hs, hx, hrun]
  have h5 := h q cap' w' h1 h2 h3 h4
  rw [← hd] at h5
  exact h5
theorem step_none (O : One S E z bytes) (hw : Region.wanted o (yielded ops a.tmps) = true) (d : Nat) (hd : o.dst = some d) (s x : Operand)
    (ho : o.op = .call { callee := .builtin .append, args := #[s, x], argTypes := #[S, S] }) (g : Nat)
    (hs : a.eval s = .slice (some ⟨g, 0, none⟩) 0 0) (B : Option Addr) (c : Nat) (hx : a.eval x = .slice B 0 c)
    (h : K (a.put (some d) (.slice (some ⟨g, 0, none⟩) 0 0)) w) :
    if Region.wanted o (yielded ops a.tmps) = true then Oper.wp Try.prog o a w K Q else F := by
  rw [if_pos hw]
  have hrun := run_app_none (w := w) O g B c o.type
  unfold Oper.wp execOp
  simp only [ho, resolve, invoke, builtin, Sem.run_bind, Sem.run_pure, Result.andThen_ok, List.map_toArray, List.map_cons, List.map_nil, hs, hx, hrun]
  rw [← hd] at h
  exact h
theorem step_own (O : One S E z bytes) (hw : Region.wanted o (yielded ops a.tmps) = true) (d : Nat) (hd : o.dst = some d) (s x : Operand)
    (ho : o.op = .call { callee := .builtin .append, args := #[s, x], argTypes := #[S, S] })
    (hs : a.eval s = .slice A n cap) (hown : OwnV w base E A n cap vs) (B : Option Addr) (m c : Nat) (news : List Value) (h1 : ∀ u ∈ news, u.oneCell' = true) (hx : a.eval x = .slice B m c) (hr : RdV w B m news) (hlen : n + m ≤ 1000000) (hbase : base ≤ w.heap.size)
    (h : ∀ A' cap' w', GrewV w w' base E A A' n cap (n + m) cap' (vs ++ news) → K (a.put (some d) (.slice A' (n + m) cap')) w') :
    if Region.wanted o (yielded ops a.tmps) = true then Oper.wp Try.prog o a w K Q else F := by
  rw [if_pos hw]
  obtain ⟨A', cap', w', hrun, hg⟩ := run_appV O hown B m c news h1 hr hlen hbase o.type
  unfold Oper.wp execOp
  simp only [ho, resolve, invoke, builtin, Sem.run_bind, Sem.run_pure, Result.andThen_ok, List.map_toArray, List.map_cons, List.map_nil, hs, hx, hrun]
  have h5 := h A' cap' w' hg
  rw [← hd] at h5
  exact h5
/-- One operation by itself. -/
theorem wp_fresh (O : One S E z bytes) (d : Nat) (hd : o.dst = some d) (s x : Operand)
    (ho : o.op = .call { callee := .builtin .append, args := #[s, x], argTypes := #[S, S] }) (g : Nat)
    (hs : a.eval s = .slice (some ⟨g, 0, none⟩) 0 0) (B : Option Addr) (m c : Nat) (news : List Value) (hx : a.eval x = .slice B m c) (hm : 0 < m) (hr : RdV w B m news) (hlen : m ≤ 1000000)
    (h : ∀ q cap' w', w.heap.size ≤ q → q < w'.heap.size → OwnV w' w.heap.size E (some ⟨q, 0, none⟩) m cap' news → Stp w w' → K (a.put (some d) (.slice (some ⟨q, 0, none⟩) m cap')) w') : Oper.wp Try.prog o a w K Q := by
  obtain ⟨q, cap', w', hrun, h1, h2, h3, h4⟩ := run_app_fresh O g B m c news hm hr hlen o.type
  unfold Oper.wp execOp
  simp only [ho, resolve, invoke, builtin, Sem.run_bind, Sem.run_pure, Result.andThen_ok, List.map_toArray, List.map_cons, List.map_nil, hs, hx, hrun]
  have h5 := h q cap' w' h1 h2 h3 h4
  rw [← hd] at h5
  exact h5
theorem wp_none (O : One S E z bytes) (d : Nat) (hd : o.dst = some d) (s x : Operand)
    (ho : o.op = .call { callee := .builtin .append, args := #[s, x], argTypes := #[S, S] }) (g : Nat)
    (hs : a.eval s = .slice (some ⟨g, 0, none⟩) 0 0) (B : Option Addr) (c : Nat) (hx : a.eval x = .slice B 0 c)
    (h : K (a.put (some d) (.slice (some ⟨g, 0, none⟩) 0 0)) w) : Oper.wp Try.prog o a w K Q := by
  have hrun := run_app_none (w := w) O g B c o.type
  unfold Oper.wp execOp
  simp only [ho, resolve, invoke, builtin, Sem.run_bind, Sem.run_pure, Result.andThen_ok, List.map_toArray, List.map_cons, List.map_nil, hs, hx, hrun]
  rw [← hd] at h
  exact h
theorem wp_own (O : One S E z bytes) (d : Nat) (hd : o.dst = some d) (s x : Operand)
    (ho : o.op = .call { callee := .builtin .append, args := #[s, x], argTypes := #[S, S] })
    (hs : a.eval s = .slice A n cap) (hown : OwnV w base E A n cap vs) (B : Option Addr) (m c : Nat) (news : List Value) (h1 : ∀ u ∈ news, u.oneCell' = true) (hx : a.eval x = .slice B m c) (hr : RdV w B m news) (hlen : n + m ≤ 1000000) (hbase : base ≤ w.heap.size)
    (h : ∀ A' cap' w', GrewV w w' base E A A' n cap (n + m) cap' (vs ++ news) → K (a.put (some d) (.slice A' (n + m) cap')) w') : Oper.wp Try.prog o a w K Q := by
  obtain ⟨A', cap', w', hrun, hg⟩ := run_appV O hown B m c news h1 hr hlen hbase o.type
  unfold Oper.wp execOp
  simp only [ho, resolve, invoke, builtin, Sem.run_bind, Sem.run_pure, Result.andThen_ok, List.map_toArray, List.map_cons, List.map_nil, hs, hx, hrun]
  have h5 := h A' cap' w' hg
  rw [← hd] at h5
  exact h5
theorem wp_build0 (O : One S E z bytes) (d : Nat) (hd : o.dst = some d) (ho : o.op = .buildSlice S 0 #[]) (h : K (a.put (some d) (.slice (some ⟨w.heap.size, 0, none⟩) 0 0)) (w.alloc (.cells #[] E))) : Oper.wp Try.prog o a w K Q := by
  obtain ⟨i0, hi, hz0, hz1, hz2⟩ := info_parts O.info
  have hrun : (Instr.buildSlice S 0 #[]).run Try.prog w = .ok (.slice (some ⟨w.heap.size, 0, none⟩) 0 0) (w.alloc (.cells #[] E)) := by
    simp [Instr.buildSlice, run_underlying O.under, sizeOf, typeInfo, hi, newRow, Instr.fill]
    have e : Array.map (fun _ => (default : Value)) (Array.range 0) = #[] := Array.ext (by simp) (fun i h1 h2 => by simp at h2)
    rw [e]
  unfold Oper.wp execOp
  rw [← hd] at h
  simp only [ho, Array.map_empty, Sem.run_bind, Sem.run_pure, Result.andThen_ok, hrun]
  exact h
theorem wp_build1 (O : One S E z bytes) (d : Nat) (hd : o.dst = some d) (t : Nat) (v : Value) (ho : o.op = .buildSlice S 1 #[(0, .tmp t)]) (hv : a.eval (.tmp t) = v) (h1 : v.cells = #[v]) (h : K (a.put (some d) (.slice (some ⟨w.heap.size, 0, none⟩) 1 1)) (w.alloc (.cells #[v] E))) : Oper.wp Try.prog o a w K Q := by
  obtain ⟨i0, hi, hz0, hz1, hz2⟩ := info_parts O.info
  have hrun : (Instr.buildSlice S 1 #[(0, v)]).run Try.prog w = .ok (.slice (some ⟨w.heap.size, 0, none⟩) 1 1) (w.alloc (.cells #[v] E)) := by
    simp [Instr.buildSlice, run_underlying O.under, sizeOf, typeInfo, zeroValue, hi, hz0, hz1, O.zero, newRow, Instr.fill, h1]
    have e : (Array.map (fun x => [z][x % 1]?.getD default) (Array.range 1)).setIfInBounds 0 v = #[v] := by
      refine Array.ext (by simp) (fun i h1 h2 => ?_)
      have h3 : i = 0 := by simp at h2; exact h2
      subst h3
      simp
    rw [e]
  unfold Oper.wp execOp
  rw [← hd] at h
  simp only [ho, List.map_toArray, List.map_cons, List.map_nil, hv, Sem.run_bind, Sem.run_pure, Result.andThen_ok, hrun]
  exact h
end
set_option maxRecDepth 100000 in
theorem byte_one : One 28 5 (.int .u8 0) 1 := ⟨by kernel_rfl, Try.underlying28, rfl, by decide⟩
theorem OwnV.rdB {w : World} {base cap n : Nat} {A : Option Addr} {l : List Nat} (h : OwnV w base 5 A n cap (bv l)) (hl : ∀ x ∈ l, x < 256) : Rd w A n l := Own.rd (base := base) (cap := cap) ⟨by have := h.1; rw [bv_length] at this; exact this, hl, h.2⟩
theorem rows_one (vs : List Value) (h : ∀ v ∈ vs, ∃ A n c, v = .slice A n c) : ∀ u ∈ vs, u.oneCell' = true := fun u hu => by obtain ⟨A, n, c, rfl⟩ := h u hu; rfl
end Go.Proofs.Ytbdomhookjmmgaa
namespace Go.Proofs.Ytbdomhookjmmgaa
open Go.RowKit
set_option linter.unusedVariables false
theorem bel_size {w W : World} (h : Below w.heap.size w W) : w.heap.size ≤ W.heap.size := h.size
theorem own_ne {W : World} {b1 b2 n1 n2 c1 c2 q1 q2 : Nat} {E1 E2 : TypeId} {l1 l2 : List Value} (h1 : OwnV W b1 E1 (some ⟨q1, 0, none⟩) n1 c1 l1) (h2 : OwnV W b2 E2 (some ⟨q2, 0, none⟩) n2 c2 l2) (hE : E1 ≠ E2) : q1 ≠ q2 := by
  intro e
  subst e
  rcases h1.2.2 with ⟨hv, _⟩ | ⟨g, c, cur, hv, _, hg, _⟩
  · cases hv
  · rcases h2.2.2 with ⟨hv2, _⟩ | ⟨g2, d, cur2, hv2, _, hg2, _⟩
    · cases hv2
    · injection hv with hA
      injection hA with hA
      injection hA with hA
      injection hv2 with hB
      injection hB with hB
      injection hB with hB
      subst hA hB
      rw [hg] at hg2
      injection hg2 with hg2
      injection hg2 with _ e2
      exact hE e2
theorem row_end {w v3 : World} {lab : Nat → Tag} {ls : List (List Nat)} {b : List Nat} {vs : List Value} {A3 : Option Addr} {c3 q2 c2 : Nat} (hB : Below w.heap.size w v3) (hold : ∀ k, lab k ≠ .no → k < w.heap.size) (h2 : ls.length + 1 ≤ 2000) (hvs : vs.length = ls.length) (hlv : ∀ (j : Nat) (x : Value) (b : List Nat), vs[j]? = some x → ls[j]? = some b → LeafR w lab x b)
    (hO : OwnV v3 w.heap.size 28 A3 (ls.length + 1) c3 (vs ++ [.slice (some ⟨q2, 0, none⟩) 128 c2])) (hR : Rd v3 (some ⟨q2, 0, none⟩) 128 b) (hq : w.heap.size ≤ q2) (hq' : q2 < v3.heap.size) :
    RowR v3 (labN lab w v3) (.slice A3 (ls.length + 1) c3) (ls ++ [b]) := by
  have hl : (ls ++ [b]).length = ls.length + 1 := by simp
  refine ⟨by omega, A3, c3, vs ++ [.slice (some ⟨q2, 0, none⟩) 128 c2], by rw [hl], by rw [hl]; exact hO.rd, fun _ => ?_, fun j x y h1 h3 => ?_⟩
  · obtain ⟨q, e, e1, e2⟩ := hO.form (by omega)
    exact ⟨q, 0, e, labN_new e1 e2⟩
  · by_cases hj : j < ls.length
    · rw [List.getElem?_append_left (by omega)] at h1 h3
      exact ((hlv j x y h1 h3).leaves hB.size fun k hk => hB.block k (hold k (by rw [hk]; simp))).relab (labN_keep hold)
    · have hj2 : j = ls.length := by
        have := (List.getElem?_eq_some_iff.1 h3).1
        omega
      subst hj2
      rw [List.getElem?_append_right (Nat.le_refl _), Nat.sub_self] at h3
      rw [List.getElem?_append_right (by omega), hvs, Nat.sub_self] at h1
      simp at h1 h3
      subst h1 h3
      exact ⟨q2, c2, rfl, hR, labN_new hq hq'⟩
theorem row_end3 {w W v3 : World} {lab : Nat → Tag} {ls : List (List Nat)} {b : List Nat} {vs : List Value} {A3 : Option Addr} {k c1 q1 c3 q2 c2 : Nat} (hold : ∀ k, lab k ≠ .no → k < w.heap.size) (h2 : k + 1 + 1 ≤ 2000) (hvs : vs.length = ls.length ∧ ls.length = k + 1) (hlv : ∀ (j : Nat) (x : Value) (b : List Nat), vs[j]? = some x → ls[j]? = some b → LeafR w lab x b) (hB : Below w.heap.size w W)
    (hg : GrewV W v3 w.heap.size 28 (some ⟨q1, 0, none⟩) A3 (k + 1) c1 (k + 1 + 1) c3 (vs ++ [.slice (some ⟨q2, 0, none⟩) 128 c2])) (ho : OwnV W w.heap.size 5 (some ⟨q2, 0, none⟩) 128 c2 (bv b)) (hb : ∀ x ∈ b, x < 256) (hq : w.heap.size ≤ q2) (h1 : OwnV W w.heap.size 28 (some ⟨q1, 0, none⟩) (k + 1) c1 vs := by assumption) :
    Below w.heap.size w v3 ∧ RowR v3 (labN lab w v3) (.slice A3 (k + 1 + 1) c3) (ls ++ [b]) := by
  have hne : q1 ≠ q2 := own_ne h1 ho (by decide)
  have hB3 := hg.below hB hB.size (fun g e => (h1.blk g e).1)
  have ho3 := ho.grown hg.grew (.inr fun g e e2 => by
    injection e with e
    injection e2 with e2
    exact hne (e.trans e2.symm))
  refine ⟨hB3, ?_⟩
  have := row_end (ls := ls) (b := b) hB3 hold (by omega) hvs.1 hlv (by rw [hvs.2]; exact hg.own) (ho3.rdB hb) hq (ho3.blk q2 rfl).2
  rw [hvs.2] at this
  exact this
theorem row_end0 {w v3 : World} {lab : Nat → Tag} {b : List Nat} {q3 c3 q2 c2 : Nat} (hold : ∀ k, lab k ≠ .no → k < w.heap.size) (hB : Below w.heap.size w v3)
    (hg : OwnV v3 w.heap.size 28 (some ⟨q3, 0, none⟩) 1 c3 [.slice (some ⟨q2, 0, none⟩) 128 c2]) (ho : OwnV v3 w.heap.size 5 (some ⟨q2, 0, none⟩) 128 c2 (bv b)) (hb : ∀ x ∈ b, x < 256) (hq : w.heap.size ≤ q2) :
    Below w.heap.size w v3 ∧ RowR v3 (labN lab w v3) (.slice (some ⟨q3, 0, none⟩) 1 c3) ([] ++ [b]) :=
  ⟨hB, row_end (ls := []) (vs := []) hB hold (by simp) rfl (by simp) hg (ho.rdB hb) hq (ho.blk q2 rfl).2⟩
/-- The cell that is written, by a name that holds in every world. -/
theorem curs {w : World} {g sb i N : Nat} {old : Value} (hgl : g < w.heap.size) (hsl : sb < w.heap.size) (hgs : g ≠ sb) (c0 : w.cell? ⟨g, 0, none⟩ = some (.slice (some ⟨sb, 0, none⟩) N N)) (k1 : w.cell? ⟨sb, i, none⟩ = some old) (frz : w.frozen? ⟨sb, i, none⟩ = false) :
    ∃ cur : World → Value, Hid (∀ wx, Below w.heap.size w wx → cur wx = old) ∧ Hid (∀ wx, Below w.heap.size w wx → wx.cell? ⟨g, 0, none⟩ = some (.slice (some ⟨sb, 0, none⟩) N N) ∧ wx.cell? ⟨sb, i, none⟩ = some (cur wx) ∧ wx.frozen? ⟨sb, i, none⟩ = false) ∧
      Hid (∀ wx v, Below w.heap.size w wx → (wx.setCell ⟨sb, i, none⟩ v).cell? ⟨g, 0, none⟩ = some (.slice (some ⟨sb, 0, none⟩) N N) ∧ (wx.setCell ⟨sb, i, none⟩ v).cell? ⟨sb, i, none⟩ = some (cur (wx.setCell ⟨sb, i, none⟩ v)) ∧ (wx.setCell ⟨sb, i, none⟩ v).frozen? ⟨sb, i, none⟩ = false) := by
  have h1 : ∀ wx, Below w.heap.size w wx → wx.cell? ⟨sb, i, none⟩ = some old := fun wx hb => (hb.cell (p := ⟨sb, i, none⟩) hsl).trans k1
  have h2 : ∀ wx, Below w.heap.size w wx → wx.cell? ⟨g, 0, none⟩ = some (.slice (some ⟨sb, 0, none⟩) N N) := fun wx hb => (hb.cell (p := ⟨g, 0, none⟩) hgl).trans c0
  have h3 : ∀ wx, Below w.heap.size w wx → wx.frozen? ⟨sb, i, none⟩ = false := fun wx hb => (hb.frozen (p := ⟨sb, i, none⟩) hsl).trans frz
  refine ⟨fun wx => (wx.cell? ⟨sb, i, none⟩).getD (.bool false), Lib.hid fun wx hb => by show (wx.cell? ⟨sb, i, none⟩).getD (.bool false) = old; rw [h1 wx hb]; rfl, Lib.hid fun wx hb => ⟨h2 wx hb, by show wx.cell? ⟨sb, i, none⟩ = some ((wx.cell? ⟨sb, i, none⟩).getD (.bool false)); rw [h1 wx hb]; rfl, h3 wx hb⟩, Lib.hid fun wx v hb => ⟨?_, ?_, ?_⟩⟩
  · rw [World.cell?_setCell_other wx _ _ _ (fun e => hgs (by injection e with e1 _; exact e1.symm))]
    exact h2 wx hb
  · show (wx.setCell ⟨sb, i, none⟩ v).cell? ⟨sb, i, none⟩ = some (((wx.setCell ⟨sb, i, none⟩ v).cell? ⟨sb, i, none⟩).getD (.bool false))
    rw [World.cell?_setCell_same wx _ _ (h1 wx hb)]
    rfl
  · rw [World.frozen?_setCell]
    exact h3 wx hb
/-- Behind the store. -/
theorem wrote_ref {w v3 : World} {g sb i : Nat} {C : List Ce} {lab : Nat → Tag} {st : Dk.St} {s : Dk.Sec} {c : Ce} {v : Value} {b : List Nat} (h : RefM w g sb C lab st) (hs : st.s[i]? = some s) (hc : C[i]? = some c) (hB : Below w.heap.size w v3) (hr : RowR v3 (labN lab w v3) v (s.l ++ [b])) (hb : b.length = 128 ∧ ∀ x ∈ b, x < 256) :
    LeftR lab g ⟨Dk.upd st.s i (fun s => ⟨s.f, s.l ++ [b]⟩), st.n, st.fused, st.left⟩ w (v3.setCell ⟨sb, i * 2 + 1, none⟩ v) := by
  refine h.upd (c' := ⟨c.f, v⟩) (G := fun s => ⟨s.f, s.l ++ [b]⟩) hB (Ch1.set _ _ _ _) hs ?_ ⟨?_, hr⟩ (by simp [World.setCell]) (fine_upd h.fine hs ⟨(h.fine.1 s (List.mem_of_getElem? hs)).1, (h.fine.1 s (List.mem_of_getElem? hs)).2.1⟩ fun y hy => ?_)
  · have := (h.row.below hB).set (i * 2 + 1) v (by rw [flatR_length]; have := (List.getElem?_eq_some_iff.1 hc).1; omega)
    rw [flatR_set_l _ hc]
    exact this
  · exact ((h.sec i c s hc hs).f.leaves hB.size fun k hk => hB.block k (h.old k (by rw [hk]; simp))).relab (labN_keep h.old)
  · rcases List.mem_append.1 hy with h1 | h1
    · exact (h.fine.1 s (List.mem_of_getElem? hs)).2.2 y h1
    · rw [List.mem_singleton.1 h1]; exact hb
end Go.Proofs.Ytbdomhookjmmgaa
namespace Go.Proofs.Ytbdomhookjmmgaa
open Go.RowKit
set_option linter.unusedVariables false
/-- Fates that may be of the loose sectors, as many as there are of both. -/
def Fits (l : List (Nat × Nat)) (k : Nat) (fs : List Dk.Fa) : Prop := fs.length = k ∧ ∀ (i : Nat) (f : Dk.Fa) (x : Nat × Nat), fs[i]? = some f → l[i]? = some x → f.ok x.2
def GivesFit (w : World) (l : List (Nat × Nat)) (k : Nat) (e : Ending) (w' : World) : Prop :=
  ∃ A cap fs, e = .returned (.slice A k cap) ∧ OwnC 2 w' w.heap.size 120 A k cap (flatFa fs) ∧ Fits l k fs ∧ Below w.heap.size w w'
set_option maxRecDepth 100000 in
theorem manyFa : Many 2 51 120 (.agg #[.int .i64 0, .int .i64 0]) 16 := ⟨by kernel_rfl, Try.underlying51, rfl, by omega, by omega⟩
theorem flatFa_snoc (l : List Dk.Fa) (x : Dk.Fa) : flatFa (l ++ [x]) = flatFa l ++ [.int .i64 x.k, .int .i64 x.c] := by unfold flatFa; rw [List.flatMap_append]; simp
theorem Fits.snoc {l : List (Nat × Nat)} {k : Nat} {fs : List Dk.Fa} (h : Fits l k fs) {f : Dk.Fa} {x : Nat × Nat} (hx : l[k]? = some x) (hf : f.ok x.2) : Fits l (k + 1) (fs ++ [f]) := by
  refine ⟨by rw [List.length_append, h.1]; rfl, fun i g y h1 h2 => ?_⟩
  by_cases e : i < k
  · rw [List.getElem?_append_left (by rw [h.1]; exact e)] at h1
    exact h.2 i g y h1 h2
  · have hi : i = k := by
      have := (List.getElem?_eq_some_iff.1 h1).1
      rw [List.length_append, h.1] at this
      simp at this
      omega
    subst hi
    rw [List.getElem?_append_right (by rw [h.1]; exact Nat.le_refl _), h.1, Nat.sub_self] at h1
    simp at h1
    subst h1
    rw [hx] at h2
    injection h2 with h2
    subst h2
    exact hf
theorem setCell_grown (w : World) (p : Addr) (u : Value) : w.grownBy (w.setCell p u) (some p.block) := ⟨rfl, rfl, rfl, by simp [World.setCell], fun k _ hk => Below.heap_setCell _ _ _ _ (fun e => hk (by rw [e]))⟩
theorem wrap_u64 (z : Int) : ∃ U : Nat, IntKind.u64.wrap z = (U : Int) := ⟨(z % 18446744073709551616).toNat, by
  have : IntKind.u64.wrap z = z % 18446744073709551616 := by simp [IntKind.wrap, IntKind.signed, IntKind.bits]
  rw [this]
  omega⟩
set_option maxRecDepth 100000 in
set_option maxHeartbeats 4000000 in
theorem fit_any (A : Option Addr) (n cap : Nat) (l : List (Nat × Nat)) (B : Option Addr) (m cb : Nat) (fs : List Dk.Fa) (w : World) (hl : RdC 2 w A n (flat2 l)) (hln : l.length = n) (hsm : ∀ x ∈ l, x.2 ≤ 2000) (hf : RdC 2 w B m (flatFa fs)) (hfn : fs.length = m) (hn : n ≤ 10000) (hm : m ≤ 9223372036854775807) :
    Calls Try.prog 33 #[.slice A n cap, .slice B m cb] w (GivesFit w l (min m n)) := by
  have HL := Lib.hid hl
  have HF := Lib.hid hf
  have HLn := Lib.hid hln
  have HFn := Lib.hid hfn
  have HS := Lib.hid hsm
  clear hl hf hln hfn hsm
  go_enter Try.func33, Try.ntmps33
  go_wp2_with fail
  go_loopw [5, 6] (fun v i wr => ∃ (j : Nat) (A1 : Option Addr) (c1 : Nat) (gs : List Dk.Fa), j ≤ m ∧ j ≤ n ∧ v = .slice A1 j c1 ∧ i = .int .i64 (j : Int) ∧ Hid (OwnC 2 wr w.heap.size 120 A1 j c1 (flatFa gs)) ∧ Hid (Fits l j gs) ∧ Hid (Below w.heap.size w wr)) (fun _ i _ => m - (intOf i).toNat)
  case atStart => exact ⟨0, none, 0, [], by omega, by omega, rfl, rfl, Lib.hid (OwnC.none_ _ _ _ _), Lib.hid ⟨rfl, by simp⟩, Lib.hid (Below.refl _ _)⟩
  case round =>
    obtain ⟨j, A1, c1, gs, hjm, hjn, rfl, rfl, HO, HG, HB⟩ := hrel
    have hbs := HB.out.size
    by_cases hj : j < m ∧ j < n
    · obtain ⟨hj1, hj2⟩ := hj
      have hji1 : (j : Int) < (m : Int) := by omega
      have hji2 : (j : Int) < (n : Int) := by omega
      obtain ⟨x, hx⟩ : ∃ x, l[j]? = some x := ⟨_, List.getElem?_eq_getElem (by rw [HLn.out]; exact hj2)⟩
      obtain ⟨f, hf⟩ : ∃ f, fs[j]? = some f := ⟨_, List.getElem?_eq_getElem (by rw [HFn.out]; exact hj1)⟩
      obtain ⟨b1, o1, rfl, hb1, p0, p1⟩ := (HL.out.below HB.out).two hj2 (flat2_at hx).1 (flat2_at hx).2
      obtain ⟨b2, o2, rfl, hb2, q0, q1⟩ := (HF.out.below HB.out).two hj1 (flatFa_at hf).1 (flatFa_at hf).2
      obtain ⟨x1, N⟩ := x
      obtain ⟨fk, fc⟩ := f
      have hN := HS.out _ (List.mem_of_getElem? hx)
      simp only at p0 p1 q0 q1 hN
      have HX := Lib.hid hx
      obtain ⟨U, hU⟩ := wrap_u64 fk
      obtain ⟨V, hV⟩ := wrap_u64 fc
      obtain ⟨R, hR⟩ : ∃ R : Nat, R = U % (N + 1) := ⟨_, rfl⟩
      have hRl : R < N + 1 := by rw [hR]; exact Nat.mod_lt _ (by omega)
      have hRi : (U : Int) % ((N : Int) + 1) = (R : Int) := by rw [hR]; simp
      obtain ⟨Q, hQ⟩ : ∃ Q : Nat, Q = V % 128 := ⟨_, rfl⟩
      have hQl : Q < 128 := by omega
      have hQi : (V : Int) % 128 = (Q : Int) := by omega
      have hNi : (N : Int) ≤ 2000 := by omega
      have hRs : (R : Int) ≤ 2000 := by omega
      have hQs : (Q : Int) < 128 := by omega
      clear hx hf hR hQ
      go_upto_region 5 with fail
      have hx1 : Holds (wr.alloc (.cells #[.int .i64 (R : Int), .int .i64 (Q : Int)] 120)).drew wr.heap.size [.int .i64 (R : Int), .int .i64 (Q : Int)] := Holds.new wr #[.int .i64 (R : Int), .int .i64 (Q : Int)] 120
      have hbx : Below wr.heap.size wr (wr.alloc (.cells #[.int .i64 (R : Int), .int .i64 (Q : Int)] 120)).drew := ((Below.refl _ _).alloc (Nat.le_refl _) _).drew
      have hsx : (wr.alloc (.cells #[.int .i64 (R : Int), .int .i64 (Q : Int)] 120)).drew.heap.size = wr.heap.size + 1 := by show (wr.alloc _).heap.size = _; simp
      have HX1 := Lib.hid hx1
      have HBx := Lib.hid hbx
      have HSx := Lib.hid hsx
      have p1' := (hbx.cell (p := ⟨b1, o1 + j * 2 + 1, none⟩) hb1).trans p1
      clear hx1 hbx hsx
      go_region
      clear p0 q0 q1 p1
      generalize (wr.alloc (.cells #[.int .i64 (R : Int), .int .i64 (Q : Int)] 120)).drew = w1 at *
      have y0 := HX1.out.at_ 0 rfl
      have y1 := HX1.out.at_ 1 rfl
      have z1 := HX1.out.2.2 1
      have HO1 := Lib.hid (HO.out.below HBx.out)
      have HB1 := Lib.hid (HB.out.trans (HBx.out.mono HB.out.size))
      have hlt1 := HX1.out.1
      have hj10 : j + 1 ≤ 1000000 := by omega
      have h1c : ∀ (u : Nat), ∀ v ∈ [Value.int .i64 (R : Int), .int .i64 (u : Int)], v.oneCell' = true := by intro u v hv; simp at hv; rcases hv with rfl | rfl <;> rfl
      clear hU hV hRi hQi
      by_cases hRN : R = N
      · subst hRN
        have hbq : (R == R) = true := by simp
        go_wp2_with fail
        go_region
        have HX3 := Lib.hid (show Holds (w1.setCell ⟨wr.heap.size, 1, none⟩ (.int .i64 0)).drew wr.heap.size [.int .i64 (R : Int), .int .i64 ((0 : Nat) : Int)] from HX1.out.set 1 (.int .i64 0) (by simp))
        have HO3 := Lib.hid (show OwnC 2 (w1.setCell ⟨wr.heap.size, 1, none⟩ (.int .i64 0)).drew w.heap.size 120 A1 j c1 (flatFa gs) from OwnC.drew (HO1.out.grown (row := some wr.heap.size) (setCell_grown w1 ⟨wr.heap.size, 1, none⟩ (.int .i64 0)) (.inr fun g e e2 => by injection e with e; have := (HO.out.blk g e2).2; have e3 : wr.heap.size = g := e; omega)))
        have HB3 := Lib.hid ((HB1.out.setCell (p := ⟨wr.heap.size, 1, none⟩) hbs (.int .i64 0)).drew)
        go_upto_region 8 with fail
        generalize (w1.setCell ⟨wr.heap.size, 1, none⟩ (.int .i64 0)).drew = w3 at *
        clear y0 y1 z1
        have y0 := HX3.out.at_ 0 rfl
        have y1 := HX3.out.at_ 1 rfl
        have hlt3 := HX3.out.1
        have HN2 := Lib.hid (rdc_new 2 w3 120 [.int .i64 (R : Int), .int .i64 ((0 : Nat) : Int)] 1 rfl (0, 0))
        have HO4 := Lib.hid (HO3.out.alloc (.cells #[.int .i64 (R : Int), .int .i64 ((0 : Nat) : Int)] 120))
        have hle2 : w.heap.size ≤ (w3.alloc (.cells #[.int .i64 (R : Int), .int .i64 ((0 : Nat) : Int)] 120)).heap.size := Nat.le_trans HB3.out.size (size_alloc_le _ _)
        have HB4 := Lib.hid (HB3.out.alloc HB3.out.size (.cells #[.int .i64 (R : Int), .int .i64 ((0 : Nat) : Int)] 120))
        have h1c := h1c 0
        go_wp2_with (at_builtin; refine wpList_appC manyFa rfl (.tmp 53) (.tmp 55) rfl rfl HO4.out ⟨w3.heap.size, 0, none⟩ 1 1 [.int .i64 (R : Int), .int .i64 ((0 : Nat) : Int)] h1c rfl HN2.out hj10 hle2 ?_; intro A' cap' w4 hg4)
        have HB5 := Lib.hid (hg4.below HB4.out hle2 (fun g e => (HO4.out.blk g e).1))
        have ho5 := hg4.own
        have HO5 := Lib.hid ho5
        clear hg4 ho5 y0 y1
        go_roundw
        case rel => exact ⟨j + 1, A', cap', gs ++ [⟨(R : Int), ((0 : Nat) : Int)⟩], by omega, by omega, rfl, by go_num, by rw [flatFa_snoc]; exact HO5, Lib.hid (HG.out.snoc HX.out (by show Dk.Fa.ok ⟨(R : Int), ((0 : Nat) : Int)⟩ R; unfold Dk.Fa.ok; simp only; omega)), HB5⟩
        case measure => simp [intOf]; omega
      · have hRNi : ((R : Int) == (N : Int)) = false := by simp; omega
        go_wp2_with fail
        go_region
        have HX3 := Lib.hid (show Holds w1.drew wr.heap.size [.int .i64 (R : Int), .int .i64 (Q : Int)] from HX1.out)
        have HO3 := Lib.hid (show OwnC 2 w1.drew w.heap.size 120 A1 j c1 (flatFa gs) from HO1.out)
        have HB3 := Lib.hid (HB1.out.drew)
        go_upto_region 8 with fail
        generalize w1.drew = w3 at *
        clear y0 y1 z1
        have y0 := HX3.out.at_ 0 rfl
        have y1 := HX3.out.at_ 1 rfl
        have hlt3 := HX3.out.1
        have HN2 := Lib.hid (rdc_new 2 w3 120 [.int .i64 (R : Int), .int .i64 (Q : Int)] 1 rfl (0, 0))
        have HO4 := Lib.hid (HO3.out.alloc (.cells #[.int .i64 (R : Int), .int .i64 (Q : Int)] 120))
        have hle2 : w.heap.size ≤ (w3.alloc (.cells #[.int .i64 (R : Int), .int .i64 (Q : Int)] 120)).heap.size := Nat.le_trans HB3.out.size (size_alloc_le _ _)
        have HB4 := Lib.hid (HB3.out.alloc HB3.out.size (.cells #[.int .i64 (R : Int), .int .i64 (Q : Int)] 120))
        have h1c := h1c Q
        go_wp2_with (at_builtin; refine wpList_appC manyFa rfl (.tmp 53) (.tmp 55) rfl rfl HO4.out ⟨w3.heap.size, 0, none⟩ 1 1 [.int .i64 (R : Int), .int .i64 (Q : Int)] h1c rfl HN2.out hj10 hle2 ?_; intro A' cap' w4 hg4)
        have HB5 := Lib.hid (hg4.below HB4.out hle2 (fun g e => (HO4.out.blk g e).1))
        have ho5 := hg4.own
        have HO5 := Lib.hid ho5
        clear hg4 ho5 y0 y1
        go_roundw
        case rel => exact ⟨j + 1, A', cap', gs ++ [⟨(R : Int), (Q : Int)⟩], by omega, by omega, rfl, by go_num, by rw [flatFa_snoc]; exact HO5, Lib.hid (HG.out.snoc HX.out (by show Dk.Fa.ok ⟨(R : Int), (Q : Int)⟩ N; unfold Dk.Fa.ok; simp only; omega)), HB5⟩
        case measure => simp [intOf]; omega
    · have key : (m : Int) ≤ (j : Int) ∨ ((j : Int) < (m : Int) ∧ (n : Int) ≤ (j : Int)) := by omega
      have hmin : j = min m n := by omega
      have hO := HO.out
      have hG := HG.out
      have HE := Lib.hid (show GivesFit w l (min m n) (.returned (.slice A1 j c1)) wr from ⟨A1, c1, gs, by rw [← hmin], by rw [← hmin]; exact hO, by rw [← hmin]; exact hG, HB.out⟩)
      clear hmin hO hG
      rcases key with q1 | ⟨q1, q2⟩
      all_goals
        go_wp2
        go_ret
        exact HE.out
end Go.Proofs.Ytbdomhookjmmgaa
