/- The program's disk: Read. -/
import Derived.Test.YtamdihodconjiaaDkCalls
namespace Go.Proofs.Ytamdihodconjiaa
open Go.RowKit
set_option linter.unusedVariables false
/-- What Read gives. -/
def GivesRead (st : Dk.St) (at_ : Int) (w : World) (e : Ending) (w' : World) : Prop :=
  ∃ (A : Option Addr) (n c : Nat), e = .returned (.tuple #[.slice A n c, .int .i64 (st.ready at_)]) ∧ Rd w' A n (st.readB at_) ∧ Below w.heap.size w w' ∧ n ≤ 128 ∧
    (st.ready at_ = 0 → A = some ⟨w.heap.size, 0, none⟩ ∧ n = 128 ∧ c = 128 ∧ Buf w' w.heap.size (st.readB at_))
theorem ready_in {st : Dk.St} {at_ : Int} (h : st.ready at_ = 0) : ∃ i s, at_ = ((i : Nat) : Int) ∧ st.s[i]? = some s ∧ st.sec at_ = s ∧ st.readB at_ = s.now := by
  have h0 : st.has at_ = true := by
    unfold Dk.St.ready at h
    split at h
    · omega
    · split at h
      · assumption
      · omega
  unfold Dk.St.has at h0
  rw [Bool.and_eq_true, decide_eq_true_eq, decide_eq_true_eq] at h0
  obtain ⟨h1, h2⟩ := h0
  have hi : at_.toNat < st.s.length := by omega
  refine ⟨at_.toNat, st.s[at_.toNat], by omega, List.getElem?_eq_getElem hi, ?_, ?_⟩
  · unfold Dk.St.sec; rw [List.getElem?_eq_getElem hi]; rfl
  · unfold Dk.St.readB Dk.St.sec; rw [if_pos h, List.getElem?_eq_getElem hi]; rfl
theorem fine_now {st : Dk.St} (h : st.fine) {i : Nat} {s : Dk.Sec} (hs : st.s[i]? = some s) : s.now.length = 128 := by
  obtain ⟨h1, h2, h3⟩ := h.1 s (List.mem_of_getElem? hs)
  unfold Dk.Sec.now
  cases hl : s.l.getLast? with
  | none => exact h1
  | some b => exact (h3 b (List.mem_of_getLast? hl)).1
theorem hasq_no_of {w : World} {d fb mb M : Nat} {E : List Dm.Mp} {lab : Nat → Tag} {st : Dk.St} (h : DiskM w d fb mb M E lab st) {i : Nat} {s : Dk.Sec} (hs : st.s[i]? = some s) (hl : s.l = []) : Dm.hasq E (i : Int) = false := by
  rw [Bool.eq_false_iff]
  intro he
  obtain ⟨m, hm, hq⟩ := Dm.hasq_yes.1 he
  obtain ⟨i', s', hs', h1, h2, h3, _⟩ := h.row m hm
  have : i' = i := by omega
  subst this
  rw [hs] at h2
  injection h2 with h2
  subst h2
  exact h3 hl
theorem row_of {w : World} {d fb mb M : Nat} {E : List Dm.Mp} {lab : Nat → Tag} {st : Dk.St} (h : DiskM w d fb mb M E lab st) {i : Nat} {s : Dk.Sec} (hs : st.s[i]? = some s) (hl : s.l ≠ []) : ∃ m hs, m ∈ E ∧ m.q = (i : Int) ∧ m.n = s.l.length ∧ Row w lab i m.a m.n m.c hs s.l := by
  obtain ⟨m, hm, hq⟩ := Dm.hasq_yes.1 (h.all i s hs hl)
  obtain ⟨i', s', hs', h1, h2, h3, h4, h5⟩ := h.row m hm
  have : i' = i := by omega
  subst this
  rw [hs] at h2
  injection h2 with h2
  subst h2
  exact ⟨m, hs', hm, hq, h4, h5⟩
theorem last_of {l : List (List Nat)} {k : Nat} {f b : List Nat} (hl : l.length = k + 1) (hb : l[k]? = some b) : l.getLast?.getD f = b := by
  rw [List.getLast?_eq_getElem?, hl, Nat.add_sub_cancel, hb]
  rfl
theorem give_read {st : Dk.St} {at_ : Int} {w w1 : World} {b : List Nat} (hr : st.ready at_ = 0) (hB : st.readB at_ = b) (hl : b.length = 128) (hb : Below w.heap.size w w1) (hbf : Buf w1 w.heap.size b) :
    GivesRead st at_ w (.returned (.tuple #[.slice (some ⟨w.heap.size, 0, none⟩) 128 128, .int .i64 0])) w1 := by
  refine ⟨some ⟨w.heap.size, 0, none⟩, 128, 128, by rw [hr], ?_, hb, Nat.le_refl _, fun _ => ⟨rfl, rfl, rfl, by rw [hB]; exact hbf⟩⟩
  have := hbf.all
  rw [hl] at this
  rw [hB]
  exact this
set_option maxRecDepth 100000 in
theorem read_m (at_ : Int) (w : World) (d fb mb M : Nat) (E : List Dm.Mp) (lab : Nat → Tag) (st : Dk.St) (h : DiskM w d fb mb M E lab st) : Calls Try.prog 18 #[.pointer (some ⟨d, 0, none⟩), .int .i64 at_] w (GivesRead st at_ w) := by
  have HR := Lib.hid (ready_m at_ w d fb mb M E lab st h)
  by_cases hr : st.ready at_ = 0
  · obtain ⟨i, s, rfl, hs, _, hB⟩ := ready_in hr
    have HB := Lib.hid hB
    have HR0 := Lib.hid hr
    have hN := h.fine.2.2
    have hil := (List.getElem?_eq_some_iff.1 hs).1
    have hii : (i : Int) ≤ 4096 := by omega
    have c1 := h.box.at_ 1 rfl
    have HP := Lib.hid (part_m i w d fb mb M E lab st h hil)
    rw [hr] at HR
    clear hr hB
    by_cases hl : s.l = []
    · have hlook := h.map.look_no (q := (i : Int)) (by constructor <;> omega) (hasq_no_of h hs hl)
      have hnow : s.now = s.f := by unfold Dk.Sec.now; rw [hl]; rfl
      have hrd := h.buf.rd (i * 128) 128 (by rw [flatF_length h.f128]; omega)
      rw [flatF_at h.f128 hs] at hrd
      have HSec := Lib.hid (sector_any (some ⟨fb, i * 128, none⟩) (M - i * 128) s.f w hrd)
      have HNow := Lib.hid hnow
      have HL := Lib.hid (h.f128 s (List.mem_of_getElem? hs))
      clear h hl hnow hs hrd
      go_enter Try.func18, Try.ntmps18
      go_wp2_with (first | (go_at_call 38; refine HR.out.mono ?_; rintro e w' ⟨rfl, rfl⟩) | (go_at_call 41; refine HP.out.mono ?_; rintro e w' ⟨rfl, rfl⟩) | (go_at_call 39; refine HSec.out.mono ?_; rintro e w1 ⟨rfl, hb1, hbf⟩; have HX := Lib.hid (And.intro hb1 hbf); clear hb1 hbf))
      go_ret2
      exact give_read HR0.out (HB.out.trans HNow.out) HL.out HX.out.1 HX.out.2
    · obtain ⟨m, hs', hm, hq, hmn, hrow⟩ := row_of h hs hl
      obtain ⟨q, a, n, c⟩ := m
      obtain rfl : q = (i : Int) := hq
      obtain rfl : n = s.l.length := hmn
      obtain ⟨k, hk⟩ : ∃ k, s.l.length = k + 1 := ⟨s.l.length - 1, by have := List.length_pos_iff.2 hl; omega⟩
      have hlook := h.map.look_yes h.ris hm (show Q64 (i : Int) by constructor <;> omega)
      replace hlook : (Instr.lookup 71 (.map (some mb)) (.int .i64 (i : Int)) false).run Try.prog w = .ok (.slice (some ⟨a, 0, none⟩) s.l.length c) w := hlook
      obtain ⟨b, hb⟩ : ∃ b, s.l[k]? = some b := ⟨_, List.getElem?_eq_getElem (by omega)⟩
      have hlen := hrow.len
      obtain ⟨x, hx⟩ : ∃ x, hs'[k]? = some x := ⟨_, List.getElem?_eq_getElem (by omega)⟩
      have hcell := hrow.own.cell (j := k) (x := leafV x) (by rw [List.getElem?_map, hx]; rfl)
      replace hcell : w.cell? ⟨a, k, none⟩ = some (.slice (some ⟨x, 0, none⟩) 128 128) := hcell
      have hbuf := (hrow.leaf k x b hx hb).1
      have hb128 : b.length = 128 := ((h.fine.1 s (List.mem_of_getElem? hs)).2.2 b (List.mem_of_getElem? hb)).1
      have hrd := hbuf.all
      rw [hb128] at hrd
      have hnow : s.now = b := last_of hk hb
      have HSec := Lib.hid (sector_any (some ⟨x, 0, none⟩) 128 b w hrd)
      have HNow := Lib.hid hnow
      have HL := Lib.hid hb128
      rw [hk] at hlook
      have hk2 : (k : Int) < 9223372036854775807 := by
        have a1 : s.l.length ≤ c := hrow.own.fits
        have a2 : c ≤ 9223372036854775807 := hrow.own.small
        omega
      clear h hl hnow hs hrd hm hrow hbuf hlen hb hx hb128 hk
      go_enter Try.func18, Try.ntmps18
      go_wp2_with (first | (go_at_call 38; refine HR.out.mono ?_; rintro e w' ⟨rfl, rfl⟩) | (go_at_call 39; refine HSec.out.mono ?_; rintro e w1 ⟨rfl, hb1, hbf⟩; have HX := Lib.hid (And.intro hb1 hbf); clear hb1 hbf))
      go_ret2
      exact give_read HR0.out (HB.out.trans HNow.out) HL.out HX.out.1 HX.out.2
  · have hB : st.readB at_ = [] := by unfold Dk.St.readB; rw [if_neg hr]
    have HBl := Lib.hid hB
    have HNr := Lib.hid hr
    have hne : ((st.ready at_) == 0) = false := by simpa using hr
    have hne2 : ((st.ready at_) != 0) = true := by simpa using hr
    clear h hB
    obtain ⟨E0, hE⟩ : ∃ E0, st.ready at_ = E0 := ⟨_, rfl⟩
    rw [hE] at HR hne hne2 hr
    have HE := Lib.hid hE
    clear hE
    go_enter Try.func18, Try.ntmps18
    go_wp2_with (go_at_call 38; refine HR.out.mono ?_; rintro e w' ⟨rfl, rfl⟩)
    go_ret2
    exact ⟨none, 0, 0, by rw [HE.out]; rfl, by rw [HBl.out]; exact Rd.nil _ _, Below.refl _ _, by omega, fun e => absurd e HNr.out⟩
end Go.Proofs.Ytamdihodconjiaa
