/- The document's disk: Flush. -/
import Derived.Test.YtamdihodconjiaaRkLoose
namespace Go.Proofs.Ytamdihodconjiaa
open Go.RowKit
set_option linter.unusedVariables false
/-- The first j sectors are fixed. -/
def fixedTo (L : List Dk.Sec) (j : Nat) : List Dk.Sec := Dk.fixed (L.take j) ++ L.drop j
theorem fixedTo_len (L : List Dk.Sec) (j : Nat) : (fixedTo L j).length = L.length := by
  unfold fixedTo Dk.fixed
  rw [List.length_append, List.length_map, List.length_take, List.length_drop]
  omega
theorem fixedTo_at {L : List Dk.Sec} {j : Nat} {s : Dk.Sec} (h : L[j]? = some s) : (fixedTo L j)[j]? = some s := by
  have hj := (List.getElem?_eq_some_iff.1 h).1
  unfold fixedTo Dk.fixed
  rw [List.getElem?_append_right (by rw [List.length_map, List.length_take]; omega), List.length_map, List.length_take, Nat.min_eq_left (by omega), Nat.sub_self, List.getElem?_drop]
  exact h
theorem fixedTo_get {L : List Dk.Sec} {j i : Nat} (hj : j ≤ L.length) : (fixedTo L j)[i]? = if i < j then (L[i]?).map (fun s => ⟨s.now, []⟩) else L[i]? := by
  have hl : (List.map (fun s : Dk.Sec => (⟨s.now, []⟩ : Dk.Sec)) (L.take j)).length = j := by rw [List.length_map, List.length_take]; omega
  unfold fixedTo Dk.fixed
  by_cases h1 : i < j
  · rw [if_pos h1, List.getElem?_append_left (by omega), List.getElem?_map, List.getElem?_take, if_pos h1]
  · rw [if_neg h1, List.getElem?_append_right (by omega), hl, List.getElem?_drop, show j + (i - j) = i by omega]
theorem fixedTo_step {L : List Dk.Sec} {j : Nat} {s : Dk.Sec} (h : L[j]? = some s) : fixedTo L (j + 1) = Dk.upd (fixedTo L j) j (fun t => ⟨t.now, []⟩) := by
  have hj := (List.getElem?_eq_some_iff.1 h).1
  unfold Dk.upd
  apply List.ext_getElem?
  intro i
  rw [List.getElem?_modify, fixedTo_get (by omega), fixedTo_get (by omega)]
  by_cases h1 : i < j
  · rw [if_pos (by omega), if_pos h1]
    cases L[i]? with
    | none => rfl
    | some t => simp [show j ≠ i by omega]
  · by_cases h2 : i = j
    · subst h2
      rw [if_pos (by omega), if_neg h1, h]
      simp
    · rw [if_neg (by omega), if_neg h1]
      cases L[i]? with
      | none => rfl
      | some t => simp [show j ≠ i by omega]
theorem fixedTo_all (L : List Dk.Sec) : fixedTo L L.length = Dk.fixed L := by unfold fixedTo; rw [List.take_length, List.drop_length, List.append_nil]
theorem now_none {s : Dk.Sec} (h : s.l = []) : (⟨s.now, []⟩ : Dk.Sec) = s := by
  obtain ⟨f, l⟩ := s
  have h : l = [] := h
  subst h
  rfl
theorem upd_fix {L : List Dk.Sec} {j : Nat} {s : Dk.Sec} {G : Dk.Sec → Dk.Sec} (h : L[j]? = some s) (e : G s = s) : Dk.upd L j G = L := by
  unfold Dk.upd
  apply List.ext_getElem?
  intro i
  rw [List.getElem?_modify]
  by_cases e2 : j = i
  · subst e2
    rw [h]
    simp [e]
  · cases L[i]? <;> simp [e2]
theorem LeftR.refl {lab : Nat → Tag} {g : Nat} {st : Dk.St} {w : World} (h : IsRef w g lab st) : LeftR lab g st w w := ⟨lab, h, Chg.refl _ _, Lab.refl _ _⟩
set_option maxRecDepth 100000 in
set_option maxHeartbeats 4000000 in
theorem rflush_any (w : World) (g : Nat) (lab : Nat → Tag) (st : Dk.St) (h : IsRef w g lab st) (h1 : 0 ≤ st.n ∧ st.n ≤ 1000 ∧ 0 ≤ st.left ∧ st.left ≤ 1048576) :
    Calls Try.prog 31 #[.pointer (some ⟨g, 0, none⟩)] w fun e w' => e = .returned (.int .i64 st.flushE) ∧ LeftR lab g st.flush w w' := by
  have HD := Lib.hid (rdown_any w g lab st h)
  have HSf := Lib.hid (LeftR.refl h)
  have H := Lib.hid h
  have H1 := Lib.hid h1
  cases hd : st.down
  · rw [hd] at HD
    have e1 : st.flushE = 0 := by unfold Dk.St.flushE; rw [hd]; rfl
    have e2 : st.flush = Dk.St.burn ⟨Dk.fixed st.s, st.n, st.fused, st.left⟩ := by unfold Dk.St.flush; rw [e1]; rfl
    rw [e1, e2]
    have Hd := Lib.hid hd
    have HN := Lib.hid (show st.s.length ≤ 4096 by obtain ⟨_, _, h⟩ := h; exact h.fine.2.2)
    clear e1 e2 hd h h1
    go_enter Try.func31, Try.ntmps31
    go_wp2_with (refine HD.out.mono ?_; rintro e w' ⟨rfl, rfl⟩)
    go_loopw [3] (fun i wr => ∃ j : Nat, j ≤ st.s.length ∧ i = .int .i64 (j : Int) ∧ Hid (LeftR lab g ⟨fixedTo st.s j, st.n, st.fused, st.left⟩ w wr)) (fun i _ => st.s.length - (intOf i).toNat)
    case atStart => exact ⟨0, by omega, rfl, by unfold fixedTo; exact HSf⟩
    case round =>
      obtain ⟨j, hj, rfl, HL⟩ := hrel
      obtain ⟨lab1, ⟨sb, C, hR⟩, hC, hLb⟩ := HL.out
      have c0 := hR.box.at_ 0 rfl
      have c0' : wr.cell? ⟨g, 0, none⟩ = some (.slice (some ⟨sb, 0, none⟩) st.s.length st.s.length) := by rw [c0]; show some (Value.slice _ (fixedTo st.s j).length _) = _; rw [fixedTo_len]
      have HR := Lib.hid hR
      have HC := Lib.hid hC
      have HLb := Lib.hid hLb
      have hnn := HN.out
      clear hR hC hLb c0
      by_cases hjk : j < st.s.length
      · have hji : (j : Int) < (st.s.length : Int) := by omega
        obtain ⟨s, hs⟩ : ∃ s, st.s[j]? = some s := ⟨_, List.getElem?_eq_getElem hjk⟩
        have HStep := Lib.hid (fixedTo_step hs)
        have hat : (fixedTo st.s j)[j]? = some s := fixedTo_at hs
        have HAt := Lib.hid hat
        obtain ⟨c, hc, k0, k1, hsec⟩ := HR.out.at_ hat
        obtain ⟨h2000, B, cp, vs, el, hrd, hlf, hlv⟩ := hsec.l
        rw [el] at k1
        by_cases hl : s.l = []
        · rw [hl] at k1
          rw [upd_fix hat (now_none hl)] at HStep
          clear hl h2000 hc k0 hsec el hrd hlf hlv hs hat
          go_wp2_with fail
          go_roundw
          case rel => exact ⟨j + 1, by omega, by go_num, by rw [HStep.out]; exact HL⟩
          case measure => simp [intOf]; omega
        · obtain ⟨k, hk⟩ : ∃ k, s.l.length = k + 1 := ⟨s.l.length - 1, by have := List.length_pos_iff.2 hl; omega⟩
          obtain ⟨b, hb⟩ : ∃ b, s.l[k]? = some b := ⟨_, List.getElem?_eq_getElem (by omega)⟩
          have hnow : s.now = b := last_of hk hb
          obtain ⟨g2, o2, v, rfl, hg2, hv, hcell⟩ := hrd.at_ (k := k) (by omega)
          have hleaf := hlv k v b hv hb
          have HLeaf := Lib.hid hleaf
          obtain ⟨q2, cq2, rfl, hb2, _⟩ := hleaf
          have HNow := Lib.hid hnow
          have HCc := Lib.hid hc
          have Hlist := Lib.hid (And.intro hk hb)
          rw [hk] at k1
          have hki : (k : Int) ≤ 2000 := by omega
          have hk0 : (0 : Int) < (k : Int) + 1 := by omega
          have frz0 := HR.out.row.2.2 (j * 2)
          have frz1 := HR.out.row.2.2 (j * 2 + 1)
          clear hl h2000 hc hsec el hrd hlf hlv hs hat hk hb hnow hv hb2
          go_upto_region 10 with fail
          go_region
          all_goals
            go_wp2_with fail
            go_roundw
            case rel =>
              have hU := HR.out.upd (w2 := wr) (c' := ⟨.slice (some ⟨q2, 0, none⟩) 128 cq2, nilV⟩) (G := fun t => ⟨t.now, []⟩) (Below.refl _ _) ((Ch1.set sb (j * 2) wr (.slice (some ⟨q2, 0, none⟩) 128 cq2)).trans (Ch1.set sb (j * 2 + 1) _ (.slice none 0 0))) HAt.out (by
                have := (HR.out.row.set (j * 2) (.slice (some ⟨q2, 0, none⟩) 128 cq2) (by rw [flatR_length]; have := (List.getElem?_eq_some_iff.1 HCc.out).1; omega)).set (j * 2 + 1) (.slice none 0 0) (by rw [List.length_set, flatR_length]; have := (List.getElem?_eq_some_iff.1 HCc.out).1; omega)
                rw [flatR_set C j _ (List.getElem?_eq_some_iff.1 HCc.out).1]
                exact this) ⟨by show LeafR wr _ _ s.now; rw [HNow.out]; exact HLeaf.out.relab (labN_keep HR.out.old), by simp, none, 0, [], rfl, RdV.nil _ _, by simp, by simp⟩ (by simp [World.setCell]) (fine_upd HR.out.fine HAt.out (by show s.now.length = 128 ∧ _; rw [HNow.out]; exact (HR.out.fine.1 s (List.mem_of_getElem? HAt.out)).2.2 b (List.mem_of_getElem? Hlist.out.2)) (by simp))
              obtain ⟨lab2, k1, k2, k3⟩ := hU
              exact ⟨j + 1, by omega, by go_num, Lib.hid (by rw [HStep.out]; exact ⟨lab2, k1.below (Below.refl _ _).drew, HC.out.trans HLb.out (k2.trans k3 (Chg.of_below (Below.refl _ _).drew)), HLb.out.trans k3 HC.out.size⟩)⟩
            case measure => simp [intOf]; omega
      · have hji : ¬ (j : Int) < (st.s.length : Int) := by omega
        obtain rfl : j = st.s.length := by omega
        rw [fixedTo_all] at HL HR
        have hsn := rdone_any wr g lab1 ⟨Dk.fixed st.s, st.n, st.fused, st.left⟩ ⟨sb, C, HR.out⟩ H1.out Hd.out
        have HDn := Lib.hid hsn
        clear hsn
        go_wp2_with fail
        refine HDn.out.mono ?_
        rintro e w4 ⟨rfl, hl4⟩
        have HL4 := Lib.hid hl4
        clear hl4
        go_wp2
        go_ret
        obtain ⟨lab2, k1, k2, k3⟩ := HL4.out
        exact ⟨rfl, lab2, k1, HC.out.trans HLb.out k2, HLb.out.trans k3 HC.out.size⟩
  · rw [hd] at HD
    have e1 : st.flushE = 30 := by unfold Dk.St.flushE; rw [hd]; rfl
    have e2 : st.flush = st := by unfold Dk.St.flush; rw [e1]; rfl
    rw [e1, e2]
    clear e1 e2 hd h h1
    go_enter Try.func31, Try.ntmps31
    go_wp2_with (refine HD.out.mono ?_; rintro e w' ⟨rfl, rfl⟩)
    go_ret
    exact ⟨rfl, HSf.out⟩
end Go.Proofs.Ytamdihodconjiaa
