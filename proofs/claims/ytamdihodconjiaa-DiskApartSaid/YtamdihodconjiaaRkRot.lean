/- The document's disk: Rot, New. -/
import Derived.Test.YtamdihodconjiaaRkCalls
import Derived.Test.YtamdihodconjiaaBits
import Derived.Test.YtamdihodconjiaaDkRot
namespace Go.Proofs.Ytamdihodconjiaa
open Go.RowKit
set_option linter.unusedVariables false
theorem fine_upd {st : Dk.St} (h : st.fine) {i : Nat} {s : Dk.Sec} {G : Dk.Sec → Dk.Sec} (hs : st.s[i]? = some s) (h1 : (G s).f.length = 128 ∧ ∀ x ∈ (G s).f, x < 256) (h2 : ∀ b ∈ (G s).l, b.length = 128 ∧ ∀ x ∈ b, x < 256) : Dk.St.fine ⟨Dk.upd st.s i G, st.n, st.fused, st.left⟩ := by
  refine ⟨fun t ht => ?_, by show 1 ≤ (Dk.upd st.s i G).length; rw [upd_len]; exact h.2.1, by show (Dk.upd st.s i G).length ≤ 4096; rw [upd_len]; exact h.2.2⟩
  obtain ⟨j, hj⟩ := List.getElem?_of_mem ht
  have hj' : (Dk.upd st.s i G)[j]? = some t := hj
  by_cases e : j = i
  · subst e
    rw [upd_at hs] at hj'
    injection hj' with hj'
    subst hj'
    exact ⟨h1.1, h1.2, h2⟩
  · rw [upd_other e] at hj'
    exact h.1 t (List.mem_of_getElem? hj')
set_option maxRecDepth 100000 in
set_option maxHeartbeats 4000000 in
theorem rrot_any (at_ place : Int) (m : Nat) (hm : m < 256) (w : World) (g : Nat) (lab : Nat → Tag) (st : Dk.St) (h : IsRef w g lab st) :
    Calls Try.prog 33 #[.pointer (some ⟨g, 0, none⟩), .int .i64 at_, .int .i64 place, .int .u8 (m : Int)] w fun e w' => e = .returned (.int .i64 (st.rotE at_ place)) ∧ LeftR lab g (st.rot at_ place m) w w' := by
  have HH := Lib.hid (rhas_any at_ w g lab st h)
  have HSf := Lib.hid (show LeftR lab g st w w from ⟨lab, h, Chg.refl _ _, Lab.refl _ _⟩)
  cases hh : st.has at_
  · have e1 : st.rotE at_ place = 5 := by unfold Dk.St.rotE; rw [if_neg (by rw [hh]; simp)]
    have e2 : st.rot at_ place m = st := by unfold Dk.St.rot; rw [if_neg (by rw [e1]; omega)]
    rw [e1, e2]
    rw [hh] at HH
    clear e1 e2 hh h
    go_enter Try.func33, Try.ntmps33
    go_wp2_with (refine HH.out.mono ?_; rintro e w' ⟨rfl, rfl⟩)
    go_ret
    exact ⟨rfl, HSf.out⟩
  · rw [hh] at HH
    by_cases hp : 0 ≤ place ∧ place < 128
    · have e1 : st.rotE at_ place = 0 := by unfold Dk.St.rotE; rw [if_pos ⟨hh, hp⟩]
      have e2 : st.rot at_ place m = ⟨Dk.upd st.s at_.toNat (fun s => ⟨Dk.turn s.f place.toNat m, s.l⟩), st.n, st.fused, st.left⟩ := by unfold Dk.St.rot; rw [if_pos e1]
      rw [e1, e2]
      obtain ⟨hp0, hp1⟩ := hp
      obtain ⟨p, rfl⟩ : ∃ p : Nat, place = (p : Int) := ⟨place.toNat, by omega⟩
      have hp2 : p < 128 := by omega
      have hr : st.ready at_ = 0 ∨ True := .inr trivial
      obtain ⟨i, hi, rfl⟩ : ∃ i : Nat, i < st.s.length ∧ at_ = (i : Int) := by
        unfold Dk.St.has at hh
        rw [Bool.and_eq_true, decide_eq_true_eq, decide_eq_true_eq] at hh
        exact ⟨at_.toNat, by omega, by omega⟩
      rw [Int.toNat_natCast, Int.toNat_natCast]
      obtain ⟨s, hs⟩ : ∃ s, st.s[i]? = some s := ⟨_, List.getElem?_eq_getElem hi⟩
      obtain ⟨sb, C, h⟩ := h
      have H := Lib.hid h
      have hii : (i : Int) < (st.s.length : Int) := by omega
      have hiz : (i : Int) ≤ 4096 := by have := h.fine.2.2; omega
      have c0 := h.box.at_ 0 rfl
      have hgl := h.box.1
      have hsl := h.row.1
      obtain ⟨c, hc, k0, k1, hsec⟩ := h.at_ hs
      obtain ⟨q, cq, ef, hfr, _⟩ := hsec.f
      have HSec := Lib.hid hsec
      have HS := Lib.hid hs
      have HC := Lib.hid hc
      rw [ef] at k0
      obtain ⟨x, hx, hx256⟩ := byte_at hfr hp2
      have HX := Lib.hid hx
      have HF := Lib.hid hfr
      have frz := h.row.2.2 (i * 2)
      have hxm : bits .xor .u8 (x : Int) (m : Int) = ((x ^^^ m : Nat) : Int) := u8_xor_nat x m hx256 hm
      have hlt : x ^^^ m < 256 := Nat.xor_lt_two_pow (n := 8) hx256 hm
      have HLt := Lib.hid hlt
      clear hr hh h e1 e2 hsec hfr hx hs hc k1 hlt hi ef
      go_enter Try.func33, Try.ntmps33
      go_upto_region 5 with (refine HH.out.mono ?_; rintro e w' ⟨rfl, rfl⟩)
      have HRl := Lib.hid (HF.out.alloc (.cells #[] 5))
      go_wp2_with (refine wpList_appB rfl (.tmp 26) (.tmp 34) rfl rfl (Own.empty w) (some ⟨q, 0, none⟩) 128 cq s.f rfl HRl.out (by omega) (by simp) ?_; intro A1 c1 w2 hg; obtain ⟨hb2, ho2⟩ := hg.fresh; obtain ⟨g1, rfl, hg1, hg2⟩ := ho2.form (by omega); have HO := Lib.hid ho2; have HB2 := Lib.hid hb2; have x2 := ho2.cell HX.out; have f2 := ho2.free p; have c02 := (hb2.cell (p := ⟨g, 0, none⟩) hgl).trans c0; have k02 := (hb2.cell (p := ⟨sb, i * 2, none⟩) hsl).trans k0; have frz2 := (hb2.frozen (p := ⟨sb, i * 2, none⟩) hsl).trans frz; have hn1 : g ≠ g1 := (fun e => by subst e; omega); have hn2 : sb ≠ g1 := (fun e => by subst e; omega); clear hg hb2 ho2)
      have hown := (HO.out.set p (x ^^^ m) HLt.out)
      have hb3 : Below w.heap.size w (w2.setCell ⟨g1, p, none⟩ (.int .u8 ((x ^^^ m : Nat) : Int))) := HB2.out.setCell hg1 _
      have hg2' : g1 < (w2.setCell ⟨g1, p, none⟩ (.int .u8 ((x ^^^ m : Nat) : Int))).heap.size := by simpa [World.setCell] using hg2
      go_ret
      refine ⟨rfl, H.out.upd (c' := ⟨.slice (some ⟨g1, 0, none⟩) 128 c1, c.l⟩) hb3 (Ch1.set _ _ _ _) HS.out ?_ ⟨⟨g1, c1, rfl, ?_, labN_new hg1 hg2'⟩, ?_⟩ (by simp [World.setCell]) (fine_upd H.out.fine HS.out ?_ ?_)⟩
      · have := (H.out.row.below hb3).set (i * 2) (.slice (some ⟨g1, 0, none⟩) 128 c1) (by rw [flatR_length]; have := (List.getElem?_eq_some_iff.1 HC.out).1; omega)
        rw [flatR_set_f _ HC.out]
        exact this
      · rw [turn_set HX.out]
        exact hown.rd
      · exact (HSec.out.l.leaves hb3.size fun k hk => hb3.block k (H.out.old k (by rw [hk]; simp))).relab (labN_keep H.out.old)
      · rw [turn_set HX.out]
        obtain ⟨a1, a2, _⟩ := H.out.fine.1 s (List.mem_of_getElem? HS.out)
        refine ⟨by rw [List.length_set]; exact a1, fun y hy => ?_⟩
        rcases List.mem_or_eq_of_mem_set hy with h1 | h1
        · exact a2 y h1
        · rw [h1]; exact HLt.out
      · exact (H.out.fine.1 s (List.mem_of_getElem? HS.out)).2.2
    · have e1 : st.rotE at_ place = 5 := by unfold Dk.St.rotE; rw [if_neg (fun k => hp ⟨k.2.1, k.2.2⟩)]
      have e2 : st.rot at_ place m = st := by unfold Dk.St.rot; rw [if_neg (by rw [e1]; omega)]
      rw [e1, e2]
      clear e1 e2 hh h
      by_cases h0 : place < 0
      · go_enter Try.func33, Try.ntmps33
        go_wp2_with (refine HH.out.mono ?_; rintro e w' ⟨rfl, rfl⟩)
        go_ret
        exact ⟨rfl, HSf.out⟩
      · have h1 : (128 : Int) ≤ place := by omega
        clear hp
        go_enter Try.func33, Try.ntmps33
        go_wp2_with (refine HH.out.mono ?_; rintro e w' ⟨rfl, rfl⟩)
        go_ret
        exact ⟨rfl, HSf.out⟩
end Go.Proofs.Ytamdihodconjiaa
