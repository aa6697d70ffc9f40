/- The program's disk: Write. -/
import Derived.Test.YtamdihodconjiaaDkWrote
namespace Go.Proofs.Ytamdihodconjiaa
open Go.RowKit
set_option linter.unusedVariables false
theorem below_of_drew {w v : World} (h : Below w.heap.size w.drew v) : Below w.heap.size w v := ((Below.refl w.heap.size w).drew).trans h
theorem app_stays {w u2 w3 : World} {d fb mb M i n0 c0 a' c' : Nat} {E : List Dm.Mp} {lab : Nat → Tag} {st : Dk.St} {A0 : Option Addr} {vs : List Value} (h : DiskM w d fb mb M E lab st) (hrow : ∀ g, (Value.slice A0 n0 c0).ownBlock = some g → lab g = .row i)
    (hb : Below w.heap.size w u2) (hg : GrewV u2 w3 0 35 A0 (some ⟨a', 0, none⟩) n0 c0 (n0 + 1) c' vs) : w3.cell? ⟨d, 1, none⟩ = some (.map (some mb)) ∧ Mk w3 mb E := by
  have hk : ∀ k, lab k ≠ .no → lab k ≠ .row i → w3.heap[k]? = w.heap[k]? := fun k h1 h2 =>
    (hg.grew.block k (Nat.lt_of_lt_of_le (h.old k h1) hb.size) (fun e => h2 (hrow k e.symm))).trans (hb.block k (h.old k h1))
  exact ⟨(World.cell?_of_block (a := ⟨d, 1, none⟩) (hk d (by rw [h.tags.1]; simp) (by rw [h.tags.1]; simp))).trans (h.box.at_ 1 rfl), h.map.block (hk mb (by rw [h.tags.2.2]; simp) (by rw [h.tags.2.2]; simp))⟩
theorem turned_cell {w w' : World} {b d i : Nat} (h : w.mapTurned w' b) (hne : d ≠ b) : w'.cell? ⟨d, i, none⟩ = w.cell? ⟨d, i, none⟩ := by
  obtain ⟨es, ck, es', ck', _, rfl⟩ := h
  exact World.cell?_of_block (a := ⟨d, i, none⟩) (setBlock_other hne)
/-- What the writing leaves ahead of the counting. -/
def Wrote (w : World) (d fb mb M i : Nat) (lab : Nat → Tag) (st : Dk.St) (b : List Nat) (wx : World) : Prop :=
  ∃ lab' E', DiskM wx d fb mb M E' lab' ⟨Dk.upd st.s i (fun s => ⟨s.f, s.l ++ [b]⟩), st.n, st.fused, st.left⟩ ∧ Chg lab w wx ∧ Lab w lab lab'
set_option maxRecDepth 100000 in
set_option maxHeartbeats 4000000 in
/-- The write of a sector, up to the counting. -/
theorem write_m (i : Nat) (A : Option Addr) (c : Nat) (b : List Nat) (w : World) (d fb mb M : Nat) (E : List Dm.Mp) (lab : Nat → Tag) (st : Dk.St) (h : DiskM w d fb mb M E lab st) (hb : Rd w A 128 b) (hr : st.ready (i : Int) = 0) {s : Dk.Sec} (hs : st.s[i]? = some s) (hl : s.l.length ≤ 1000) (hn : 0 ≤ st.n ∧ st.n ≤ 1000000000) (hf : -1000000000 ≤ st.left ∧ st.left ≤ 1000000000) (hE : E.length ≤ 10000) :
    Calls Try.prog 16 #[.pointer (some ⟨d, 0, none⟩), .int .i64 (i : Int), .slice A 128 c] w fun e w' => e = .returned (.int .i64 0) ∧ Left lab d (Dk.St.burn ⟨Dk.upd st.s i (fun s => ⟨s.f, s.l ++ [b]⟩), st.n, st.fused, st.left⟩) w w' := by
  have HR := Lib.hid (ready_m (i : Int) w d fb mb M E lab st h)
  rw [hr] at HR
  have hil := (List.getElem?_eq_some_iff.1 hs).1
  have hN := h.fine.2.2
  have hq : Q64 (i : Int) := by constructor <;> omega
  -- the row that is there, or none
  obtain ⟨A0, n0, c0, hs0, hlook, hrow, hn0, hlen0, hleaf, hown⟩ : ∃ (A0 : Option Addr) (n0 c0 : Nat) (hs0 : List Nat), (∀ W, W.heap[mb]? = w.heap[mb]? → (Instr.lookup 71 (.map (some mb)) (.int .i64 (i : Int)) false).run Try.prog W = .ok (.slice A0 n0 c0) W) ∧
      (∀ g, (Value.slice A0 n0 c0).ownBlock = some g → lab g = .row i) ∧ n0 = s.l.length ∧ hs0.length = s.l.length ∧ (∀ (j h : Nat) (b : List Nat), hs0[j]? = some h → s.l[j]? = some b → Buf w h b ∧ lab h = .leaf) ∧ OwnV w 0 35 A0 n0 c0 (hs0.map leafV) := by
    by_cases h0 : s.l = []
    · exact ⟨none, 0, 0, [], fun W hW => (h.map.block hW).look_no hq (hasq_no_of h hs h0), (fun g e => by cases e), (by rw [h0]; rfl), (by rw [h0]; rfl), (fun j h b e => by simp at e), OwnV.none_ _ _ _⟩
    · obtain ⟨m, hs', hm, hq2, hmn, hrow⟩ := row_of h hs h0
      refine ⟨some ⟨m.a, 0, none⟩, m.n, m.c, hs', fun W hW => ?_, fun g e => ?_, hmn, hrow.len, hrow.leaf, hrow.own⟩
      · have := (h.map.block hW).look_yes h.ris hm (by rw [hq2]; exact hq)
        rw [hq2] at this
        exact this
      · injection e with e
        rw [← e]
        exact hrow.tag
  have c1 := h.box.at_ 1 rfl
  have HSec := Lib.hid (fun W (hW : Below w.heap.size w W) => sector_any A c b W (hb.below hW))
  have H := Lib.hid h
  have HLk := Lib.hid hlook
  have HRow := Lib.hid hrow
  have HN0 := Lib.hid hn0
  have HLen := Lib.hid hlen0
  have HLf := Lib.hid hleaf
  have HOwn := Lib.hid hown
  have HS := Lib.hid hs
  have HB := Lib.hid hb.1
  have hmb := h.old mb (by rw [h.tags.2.2]; simp)
  have hd : Below w.heap.size w w.drew := (Below.refl _ _).drew
  have hlk1 := hlook w rfl
  have hlk2 := hlook w.drew rfl
  have hl3 : n0 + 1 ≤ 1000000 := by omega
  have HQ := Lib.hid hq
  have hdm := Lib.hid (show d ≠ mb from fun e => by have := h.tags.1; rw [e, h.tags.2.2] at this; cases this)
  clear hb hr h hs hN hq hlook hrow hn0 hlen0 hleaf hown hil
  go_enter Try.func16, Try.ntmps16
  go_wp2_with fail
  refine HR.out.mono ?_
  rintro e w' ⟨rfl, rfl⟩
  go_upto_region 6 with fail
  have hcl : ∀ wx, Below w.heap.size w wx → wx.cell? ⟨d, 1, none⟩ = some (.map (some mb)) := fun wx hx => (H.out.box.below hx).at_ 1 rfl
  have HCl := Lib.hid hcl
  clear hcl
  have h1c : ∀ u ∈ [leafV w.heap.size], u.oneCell' = true := by intro u hu; simp at hu; subst hu; rfl
  have HLb := Lib.hid (fun wx (hx : Below w.heap.size w wx) => HLk.out wx (hx.block mb hmb))
  go_cut [17] from 17 to 31 (fun s17 wx => Wrote w d fb mb M i lab st b wx)
  case first =>
    go_region_held3 (fun wx => wx.cell? ⟨d, 1, none⟩ = some (.map (some mb))) (first | exact HCl.out _ hd | exact HCl.out _ hB1 | exact HCl.out _ hB2 | exact hst3.1 | exact hst4) (first
      | (go_at_call 39; refine (HSec.out _ hd).mono ?_; rintro e u1 ⟨rfl, hb1, hbf⟩; have hB1 : Below w.heap.size w u1 := below_next hd hb1; have hB2 : Below w.heap.size w (u1.alloc (.cells #[.slice (some ⟨w.heap.size, 0, none⟩) 128 128] 35)) := hB1.alloc hB1.size _; have hlk3 := HLb.out _ hB1; have hlk4 := HLb.out _ hB2; have hOw := (HOwn.out.below hB1).alloc (.cells #[.slice (some ⟨w.heap.size, 0, none⟩) 128 128] 35); have hRn := rdv_one u1 35 (.slice (some ⟨w.heap.size, 0, none⟩) 128 128))
      | (refine step_appV row_one (by rfl) (.tmp 27) (.tmp 30) rfl rfl hOw (some ⟨u1.heap.size, 0, none⟩) 1 1 [leafV w.heap.size] h1c rfl hRn hl3 (Nat.zero_le _) ?_; intro A3 c3 w3 hg3; obtain ⟨a3, hA3, _, _⟩ := hg3.own.form (by omega); subst hA3; have hst3 := app_stays H.out HRow.out hB2 hg3; obtain ⟨w4, hup, hmk, htn⟩ := Mk.store (m := ⟨(i : Int), a3, n0 + 1, c3⟩) hst3.2 hE HQ.out; replace hup : (Instr.mapUpdate 71 (.map (some mb)) (.int .i64 (i : Int)) (.slice (some ⟨a3, 0, none⟩) (n0 + 1) c3)).run Try.prog w3 = .ok () w4 := hup; have hst4 : w4.cell? ⟨d, 1, none⟩ = some (.map (some mb)) := (turned_cell htn hdm.out).trans hst3.1))
    all_goals
      have HW := Lib.hid (H.out.wrote HS.out HRow.out HN0.out HLen.out HLf.out hB1 hbf HB.out ((Below.refl u1.heap.size u1).alloc (Nat.le_refl _) (.cells #[.slice (some ⟨w.heap.size, 0, none⟩) 128 128] 35)) hg3 hmk (turned_ch htn))
      clear hg3 hmk htn hup hst3 hst4
      go_wp2_with fail
      go_meet
      exact ⟨_, _, HW.out⟩
  case rest =>
    obtain ⟨lab', E', hD, hc, hlb⟩ := hcut
    have HD := Lib.hid hD
    have HC := Lib.hid hc
    have HLb2 := Lib.hid hlb
    clear hD hc hlb hlk1 hlk2 c1 h1c
    go_wp2_with fail
    refine (burn_m wc d _ _ st.n st.left st.fused HD.out.box hn hf).mono ?_
    rintro e w5 ⟨rfl, hb5, hc5⟩
    have HX := Lib.hid (HD.out.boxed _ _ _ hb5 hc5)
    clear hb5 hc5
    go_wp2
    go_ret
    exact ⟨rfl, lab', ⟨fb, mb, M, E', HX.out.1⟩, HC.out.trans HLb2.out HX.out.2, HLb2.out⟩
end Go.Proofs.Ytamdihodconjiaa
