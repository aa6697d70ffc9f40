/- The program's disk: Flush. The program's disk: Flush of any, New. -/
import Derived.Test.YtbdomhookjmmgaaDkD
namespace Go.Proofs.Ytbdomhookjmmgaa
open Go.RowKit
set_option linter.unusedVariables false
set_option maxRecDepth 100000 in
theorem run_copyF {w : World} {g : Nat} {l : List Nat} (h : Buf w g l) (o dLen dCap : Nat) (A : Option Addr) (n c : Nat) (p : List Nat) (hp : Rd w A n p) (hn : n ≤ dLen) (hfit : o + n ≤ l.length) (ty : TypeId) :
    ∃ w', (Builtin.copy_ #[28, 28] ty #[.slice (some ⟨g, o, none⟩) dLen dCap, .slice A n c]).run Try.prog w = .ok (goInt n) w' ∧ Buf w' g (l.take o ++ (p ++ l.drop (o + p.length))) ∧ Ch1 g w w' := by
  have hsz : (Try.prog.info? 5).map (·.size) = some 1 := by kernel_rfl
  have hpl := hp.1
  have hall : ∀ x ∈ l.take o ++ (p ++ l.drop (o + p.length)), x < 256 := by
    intro x hx
    rcases List.mem_append.1 hx with h1 | h1
    · exact h.2 x (List.mem_of_mem_take h1)
    · rcases List.mem_append.1 h1 with h1 | h1
      · exact hp.lt h1
      · exact h.2 x (List.mem_of_mem_drop h1)
  by_cases h0 : n = 0
  · subst h0
    have hp0 : p = [] := List.eq_nil_of_length_eq_zero hpl
    subst hp0
    exact ⟨w, run_copy_none (P := Try.prog) w 28 28 ty 5 (some ⟨g, o, none⟩) A dLen dCap 0 c Try.underlying28 hsz (by simp), ⟨by simpa using h.1, hall⟩, Ch1.refl _ _⟩
  · obtain ⟨b, o2, rfl, hb, hc⟩ := hp.2.2 (by omega)
    have hr := run_copy_row (P := Try.prog) w 28 28 ty 5 g o dLen dCap ⟨b, o2, none⟩ n c (bv l).toArray _ (bv p) Try.underlying28 hsz h.1 (by rw [bv_length, hpl]; exact (Nat.min_eq_left hn).symm)
      (fun j x hx => by
        unfold bv at hx
        rw [List.getElem?_map] at hx
        cases hq : p[j]? with
        | none => rw [hq] at hx; cases hx
        | some y =>
          rw [hq] at hx
          injection hx with hx
          subst hx
          have e : (⟨b, o2, none⟩ : Addr).add j = ⟨b, o2 + j, none⟩ := by unfold Addr.add; split <;> simp_all
          rw [e]; exact hc j y hq) (by simp [bv]; omega) (bv_one _)
    rw [bv_length, hpl] at hr
    refine ⟨_, hr, ⟨?_, hall⟩, Ch1.row _ _ _⟩
    rw [setRow_heap w g _ _ _ _ h.1]
    simp [bv, hpl, List.map_take, List.map_drop]
theorem flatF_put {L : List Dk.Sec} (h : ∀ s ∈ L, s.f.length = 128) {i : Nat} {s : Dk.Sec} (hs : L[i]? = some s) {b : List Nat} (hb : b.length ≤ 128) : (flatF L).take (i * 128) ++ (b ++ (flatF L).drop (i * 128 + b.length)) = flatF (Dk.upd L i (fun s => ⟨b ++ s.f.drop b.length, s.l⟩)) := by
  induction L generalizing i with
  | nil => simp at hs
  | cons x r ih =>
    have hx := h x (by simp)
    cases i with
    | zero =>
      simp at hs
      subst hs
      show (x.f ++ flatF r).take (0 * 128) ++ (b ++ (x.f ++ flatF r).drop (0 * 128 + b.length)) = (b ++ x.f.drop b.length) ++ flatF r
      rw [Nat.zero_mul, List.take_zero, Nat.zero_add, List.nil_append, List.drop_append_of_le_length (by omega), List.append_assoc]
    | succ i =>
      simp only [List.getElem?_cons_succ] at hs
      show (x.f ++ flatF r).take ((i + 1) * 128) ++ (b ++ (x.f ++ flatF r).drop ((i + 1) * 128 + b.length)) = x.f ++ flatF (Dk.upd r i _)
      rw [← ih (fun z hz => h z (by simp [hz])) hs, List.take_append, List.drop_append, hx, List.take_of_length_le (by omega), List.drop_of_length_le (by omega), show (i + 1) * 128 - 128 = i * 128 by omega, show (i + 1) * 128 + b.length - 128 = i * 128 + b.length by omega, List.nil_append, List.append_assoc]
theorem DiskM.cleared {w w' : World} {d fb mb M i : Nat} {E : List Dm.Mp} {lab : Nat → Tag} {st : Dk.St} {s : Dk.Sec} (h : DiskM w d fb mb M E lab st) (hi : st.s[i]? = some s) (hm : Mk w' mb (Dm.str E (i : Int))) (ht : Ch1 mb w w') : DiskM w' d fb mb M (Dm.str E (i : Int)) lab ⟨Dk.upd st.s i (fun s => ⟨s.f, []⟩), st.n, st.fused, st.left⟩ ∧ Chg lab w w' := by
  have hd : lab mb ≠ .no := by rw [h.tags.2.2]; simp
  have hk : ∀ k, lab k ≠ .no → lab k ≠ .map → w'.heap[k]? = w.heap[k]? := fun k h1 h2 => ht.block k (h.old k h1) (fun e => h2 (by rw [e, h.tags.2.2]))
  refine ⟨⟨h.box.block ht.size (hk d (by rw [h.tags.1]; simp) (by rw [h.tags.1]; simp)), by rw [h.len]; show _ = 128 * (Dk.upd st.s i _).length; rw [upd_len], ?_, hm, Dm.ris_str h.ris _, fun m hm => ?_, fun j t hj hne => ?_, h.tags, fun k hk => Nat.lt_of_lt_of_le (h.old k hk) ht.size, ⟨fun t hT => ?_, by show 1 ≤ (Dk.upd st.s i _).length; rw [upd_len]; exact h.fine.2.1, by show (Dk.upd st.s i _).length ≤ 4096; rw [upd_len]; exact h.fine.2.2⟩⟩, Chg.of_ch1 ht hd⟩
  · show Buf w' fb (flatF (Dk.upd st.s i fun s => ⟨s.f, []⟩))
    rw [flatF_upd (g := fun s => ⟨s.f, []⟩) (fun _ => rfl)]
    exact h.buf.block (hk fb (by rw [h.tags.2.1]; simp) (by rw [h.tags.2.1]; simp))
  · obtain ⟨hm1, hm2⟩ := Dm.mem_str.1 hm
    obtain ⟨i', s', hs', h1, h2, h3, h4, h5⟩ := h.row m hm1
    have hne : i' ≠ i := fun e => hm2 (by rw [h1, e])
    refine ⟨i', s', hs', h1, by show (Dk.upd st.s i _)[i']? = _; rw [upd_other hne]; exact h2, h3, h4, ⟨h5.tag, h5.own.block (hk _ (by rw [h5.tag]; simp) (by rw [h5.tag]; simp)), h5.len, fun j x b e1 e2 => ?_⟩⟩
    obtain ⟨g1, g2⟩ := h5.leaf j x b e1 e2
    exact ⟨g1.block (hk x (by rw [g2]; simp) (by rw [g2]; simp)), g2⟩
  · have hj : (Dk.upd st.s i _)[j]? = some t := hj
    by_cases e : j = i
    · subst e
      rw [upd_at hi] at hj
      injection hj with hj
      subst hj
      exact absurd rfl hne
    · rw [upd_other e] at hj
      obtain ⟨m, hm1, hm2⟩ := Dm.hasq_yes.1 (h.all j t hj hne)
      exact Dm.hasq_yes.2 ⟨m, Dm.mem_str.2 ⟨hm1, by rw [hm2]; omega⟩, hm2⟩
  · obtain ⟨j, hj⟩ := List.getElem?_of_mem hT
    have hj : (Dk.upd st.s i _)[j]? = some t := hj
    by_cases e : j = i
    · subst e
      rw [upd_at hi] at hj
      injection hj with hj
      subst hj
      obtain ⟨a1, a2, a3⟩ := h.fine.1 s (List.mem_of_getElem? hi)
      exact ⟨a1, a2, fun y hy => by simp at hy⟩
    · rw [upd_other e] at hj
      exact h.fine.1 t (List.mem_of_getElem? hj)
/-- How far a flush has come. -/
structure Fl (st st1 : Dk.St) : Prop where
  n : st1.n = st.n
  fused : st1.fused = st.fused
  left : st1.left = st.left
  len : st1.s.length = st.s.length
  sec : ∀ (i : Nat) (s : Dk.Sec), st.s[i]? = some s → st1.s[i]? = some s ∨ st1.s[i]? = some ⟨s.now, []⟩
theorem Fl.refl (st : Dk.St) : Fl st st := ⟨rfl, rfl, rfl, rfl, fun i s h => .inl h⟩
theorem Fl.step {st st1 : Dk.St} (h : Fl st st1) {i : Nat} {s : Dk.Sec} (hi : st1.s[i]? = some s) {b : List Nat} (hb : b = s.now) : Fl st ⟨Dk.upd (Dk.upd st1.s i (fun s => ⟨b, s.l⟩)) i (fun s => ⟨s.f, []⟩), st1.n, st1.fused, st1.left⟩ := by
  refine ⟨h.n, h.fused, h.left, by show (Dk.upd (Dk.upd st1.s i _) i _).length = _; rw [upd_len, upd_len]; exact h.len, fun j t hj => ?_⟩
  show (Dk.upd (Dk.upd st1.s i _) i _)[j]? = _ ∨ (Dk.upd (Dk.upd st1.s i _) i _)[j]? = _
  by_cases e : j = i
  · subst e
    right
    rw [upd_at (upd_at hi)]
    rcases h.sec j t hj with h1 | h1
    · rw [hi] at h1
      injection h1 with h1
      subst h1
      rw [hb]
    · rw [hi] at h1
      injection h1 with h1
      rw [hb, h1]
      rfl
  · rw [upd_other e, upd_other e]
    exact h.sec j t hj
theorem Fl.done {st st1 : Dk.St} (h : Fl st st1) (hl : ∀ (i : Nat) (s : Dk.Sec), st1.s[i]? = some s → s.l = []) : st1 = ⟨Dk.fixed st.s, st.n, st.fused, st.left⟩ := by
  obtain ⟨s1, n1, f1, l1⟩ := st1
  obtain ⟨h1, h2, h3, h4, h5⟩ := h
  have h1 : n1 = st.n := h1
  have h2 : f1 = st.fused := h2
  have h3 : l1 = st.left := h3
  subst h1 h2 h3
  congr 1
  unfold Dk.fixed
  apply List.ext_getElem?
  intro i
  rw [List.getElem?_map]
  cases hi : st.s[i]? with
  | none =>
    have h4 : s1.length = st.s.length := h4
    rw [List.getElem?_eq_none_iff] at hi
    show s1[i]? = none
    rw [List.getElem?_eq_none_iff]
    omega
  | some s =>
    rcases h5 i s hi with e | e
    · have := hl i s e
      show s1[i]? = some _
      have e : s1[i]? = some s := e
      rw [e]
      obtain ⟨f, l⟩ := s
      have this : l = [] := this
      subst this
      rfl
    · exact e
/-- What holds as sectors are fixed. -/
def InvFl (w : World) (d fb mb M : Nat) (lab : Nat → Tag) (st : Dk.St) (r : Nat) (wr : World) : Prop :=
  ∃ E1 st1 left cnt, DiskM wr d fb mb M E1 lab st1 ∧ wr.ranges Try.prog 3 Dm.elem mb r 1000000 (Dm.dat E1) left cnt ∧ (∀ q, left (.int .i64 q) = Dm.hasq E1 q) ∧ Fl st st1 ∧ Chg lab w wr
theorem hasq_str (L : List Dm.Mp) (q p : Int) : Dm.hasq (Dm.str L q) p = (Dm.hasq L p && !decide (p = q)) := by
  rw [Bool.eq_iff_iff, Dm.hasq_yes, Bool.and_eq_true, Dm.hasq_yes]
  constructor
  · rintro ⟨x, hx, rfl⟩
    obtain ⟨h1, h2⟩ := Dm.mem_str.1 hx
    exact ⟨⟨x, h1, rfl⟩, by simp [h2]⟩
  · rintro ⟨⟨x, hx, rfl⟩, h2⟩
    exact ⟨x, Dm.mem_str.2 ⟨hx, by simpa using h2⟩, rfl⟩
theorem Ch1.grown {b : Nat} {w w' : World} (h : Ch1 b w w') : w.grownBy w' (some b) := ⟨h.os, h.tape, h.output, h.size, fun k hk hne => h.block k hk (fun e => hne (by rw [e]))⟩
theorem Chg.grown {lab : Nat → Tag} {w w1 w2 : World} (h : Chg lab w w1) {r : Nat} (hg : w1.grownBy w2 (some r)) (hr : w.heap.size ≤ r) : Chg lab w w2 :=
  ⟨hg.os.trans h.os, hg.tape.trans h.tape, hg.output.trans h.output, Nat.le_trans h.size hg.size, fun k hk e => (hg.block k (Nat.lt_of_lt_of_le hk h.size) (fun e2 => by injection e2 with e2; omega)).trans (h.block k hk e)⟩
theorem fl_start {w w0 : World} {d fb mb M : Nat} {E : List Dm.Mp} {lab : Nat → Tag} {st : Dk.St} (h : DiskM w d fb mb M E lab st) (hrg : w0.ranges Try.prog 3 Dm.elem mb w.heap.size 1000000 (Dm.dat E) (Maps.has (Dm.dat E)) (Maps.size (Dm.dat E))) (hg : w.grownBy w0 none) (hs : w0.heap.size = w.heap.size + 1) : InvFl w d fb mb M lab st w.heap.size w0 :=
  ⟨E, st, _, _, h.keep hg.size (fun k hk => hg.block k (h.old k hk) (by simp)), hrg, fun q => by rw [Dm.has_dat], Fl.refl st, ⟨hg.os, hg.tape, hg.output, hg.size, fun k hk _ => hg.block k hk (by simp)⟩⟩
theorem upd_eq {L : List Dk.Sec} {i : Nat} {s : Dk.Sec} {g g' : Dk.Sec → Dk.Sec} (h : L[i]? = some s) (hg : g s = g' s) : Dk.upd L i g = Dk.upd L i g' := by
  unfold Dk.upd
  apply List.ext_getElem?
  intro k
  rw [List.getElem?_modify, List.getElem?_modify]
  by_cases e : i = k
  · subst e
    rw [h]
    simp [hg]
  · simp [e]
/-- A sector is fixed as some bytes. -/
theorem DiskM.put {w w' : World} {d fb mb M i : Nat} {E : List Dm.Mp} {lab : Nat → Tag} {st : Dk.St} {s : Dk.Sec} {b : List Nat} (h : DiskM w d fb mb M E lab st) (hi : st.s[i]? = some s) (hb : Buf w' fb (flatF (Dk.upd st.s i (fun s => ⟨b, s.l⟩)))) (hc : Ch1 fb w w') (hl : b.length = 128) (hx : ∀ x ∈ b, x < 256) : DiskM w' d fb mb M E lab ⟨Dk.upd st.s i (fun s => ⟨b, s.l⟩), st.n, st.fused, st.left⟩ ∧ Chg lab w w' :=
  h.rebuf hb hc (upd_len _ _ _) (fun k => map_l_upd _ _ _ _ (fun _ => rfl)) (fun t ht => by
    obtain ⟨k, hk⟩ := List.getElem?_of_mem ht
    by_cases e : k = i
    · subst e
      rw [upd_at hi] at hk
      injection hk with hk
      subst hk
      exact ⟨hl, hx⟩
    · rw [upd_other e] at hk
      obtain ⟨a1, a2, _⟩ := h.fine.1 t (List.mem_of_getElem? hk)
      exact ⟨a1, a2⟩)
theorem fl_next {w wr w1 w2 w3 : World} {d fb mb M i cnt'' : Nat} {E1 : List Dm.Mp} {lab : Nat → Tag} {st st1 : Dk.St} {s : Dk.Sec} {b : List Nat} {left : Lit → Bool} (HD1 : DiskM w1 d fb mb M E1 lab st1) (hsi : st1.s[i]? = some s) (hb2 : Buf w2 fb (flatF (Dk.upd st1.s i (fun s => ⟨b ++ s.f.drop 128, s.l⟩)))) (hc2 : Ch1 fb w1 w2) (hl : b.length = 128) (hx : ∀ x ∈ b, x < 256)
    (hnow : b = s.now) (hfl : Fl st st1) (hlf : ∀ q, left (.int .i64 q) = Dm.hasq E1 q) (hch : Chg lab w wr) (hg1 : wr.grownBy w1 (some w.heap.size)) (htn : w2.mapTurned w3 mb)
    (hrg : w3.ranges Try.prog 3 Dm.elem mb w.heap.size 1000000 ((Dm.dat E1).del (.int .i64 (i : Int))) (fun z => (left z && !z.sameKey (.int .i64 (i : Int))) && !z.sameKey (.int .i64 (i : Int))) cnt'') : InvFl w d fb mb M lab st w.heap.size w3 := by
  rw [Dm.del_dat] at hrg
  have hf := HD1.f128 s (List.mem_of_getElem? hsi)
  rw [upd_eq (g' := fun s => ⟨b, s.l⟩) hsi (by show (⟨b ++ s.f.drop 128, s.l⟩ : Dk.Sec) = ⟨b, s.l⟩; rw [List.drop_of_length_le (by omega), List.append_nil])] at hb2
  obtain ⟨hA, hAc⟩ := HD1.put hsi hb2 hc2 hl hx
  have hmk : Mk w3 mb (Dm.str E1 (i : Int)) := Mk.of hrg.owns (by
    have a1 : (Dm.str E1 (i : Int)).length ≤ E1.length := List.length_filter_le _ _
    have a2 := HD1.few
    omega)
  obtain ⟨hB, hBc⟩ := hA.cleared (upd_at hsi) hmk (turned_ch htn)
  refine ⟨_, _, _, cnt'', hB, hrg, fun q => ?_, hfl.step hsi hnow, (((hch.grown hg1 (Nat.le_refl _)).trans (Lab.refl _ _) hAc)).trans (Lab.refl _ _) hBc⟩
  rw [hasq_str]
  show ((left (.int .i64 q) && !(Lit.int .i64 q).sameKey (.int .i64 (i : Int))) && !(Lit.int .i64 q).sameKey (.int .i64 (i : Int))) = _
  rw [hlf q]
  have e : (Lit.int .i64 q).sameKey (.int .i64 (i : Int)) = decide (q = (i : Int)) := by simp [Lit.sameKey]
  rw [e]
  cases Dm.hasq E1 q <;> cases decide (q = (i : Int)) <;> rfl
set_option maxRecDepth 100000 in
set_option maxHeartbeats 4000000 in
theorem flush_m (w : World) (d fb mb M : Nat) (E : List Dm.Mp) (lab : Nat → Tag) (st : Dk.St) (h : DiskM w d fb mb M E lab st) (hdn : st.down = false) (hn : 0 ≤ st.n ∧ st.n ≤ 1000000000) (hf : -1000000000 ≤ st.left ∧ st.left ≤ 1000000000) :
    Calls Try.prog 37 #[.pointer (some ⟨d, 0, none⟩)] w fun e w' => e = .returned (.int .i64 0) ∧ Left lab d (Dk.St.burn ⟨Dk.fixed st.s, st.n, st.fused, st.left⟩) w w' := by
  have HR := Lib.hid (ready_m 0 w d fb mb M E lab st h)
  have h0 : st.has 0 = true := by unfold Dk.St.has; have := h.fine.2.1; rw [decide_eq_true (by omega), decide_eq_true (by omega)]; rfl
  have er : st.ready 0 = 0 := by unfold Dk.St.ready; rw [h0, hdn]; rfl
  rw [er] at HR
  have H := Lib.hid h
  have hlr : lab w.heap.size = .no := by
    cases e : lab w.heap.size with
    | no => rfl
    | _ => exact absurd (h.old w.heap.size (by rw [e]; simp)) (Nat.lt_irrefl _)
  have HLr := Lib.hid hlr
  have c1 := h.box.at_ 1 rfl
  have hmap := h.map
  clear h h0 er hdn hlr
  go_enter Try.func37, Try.ntmps37
  go_wp2_with fail
  refine HR.out.mono ?_
  rintro e w' ⟨rfl, rfl⟩
  go_wp2_with (at_range; refine wpList_range_own _ rfl _ 87 rfl 3 111 keyed Try.underlying87 Dm.elem mb 1000000 (Dm.dat E) rfl hmap ?_; intro w0 hrg0 hg0 hs0)
  go_frame
  have HS := Lib.hid (fl_start H.out hrg0 hg0 hs0)
  clear hrg0 hg0 hs0 hmap c1
  go_loopw [4, 5] (fun _ _ wr => InvFl w d fb mb M lab st w.heap.size wr) (fun _ _ wr => wr.rangeLeft mb w.heap.size)
  case atStart => exact HS.out
  case round =>
    clear HS
    obtain ⟨E1, st1, left, cnt, hD, hrg, hlf, hfl, hch⟩ := hrel
    have HD := Lib.hid hD
    have HG := Lib.hid hrg
    have HLf := Lib.hid hlf
    have HFl := Lib.hid hfl
    have HCh := Lib.hid hch
    have HC := Lib.hid hrg.left_eq
    clear hD hrg hlf hfl hch
    go_wp2_with (at_next; refine next_dm _ HD.out.ris rfl _ rfl mb w.heap.size 1000000 left cnt rfl HG.out ?_ ?_)
    · intro hdone
      have hE0 : ∀ m ∈ E1, False := fun m hm => by
        have := hdone (.int .i64 m.q)
        rw [HLf.out, Dm.hasq_yes.2 ⟨m, hm, rfl⟩] at this
        cases this
      have hst : st1 = ⟨Dk.fixed st.s, st.n, st.fused, st.left⟩ := HFl.out.done (fun i s hs => by
        by_cases hl : s.l = []
        · exact hl
        · obtain ⟨m, _, hm, _⟩ := row_of HD.out hs hl
          exact absurd hm (fun hm => hE0 m hm))
      have HSt := Lib.hid hst
      have hB := HD.out.box
      rw [hst] at hB
      have HBx := Lib.hid hB
      clear hdone hE0 hst hB
      go_wp2_with fail
      refine (burn_m wr d _ _ st.n st.left st.fused HBx.out hn hf).mono ?_
      rintro e w5 ⟨rfl, hb5, hc5⟩
      have HX := Lib.hid (HD.out.boxed _ _ _ hb5 hc5)
      clear hb5 hc5
      go_wp2
      go_ret
      have hX := HX.out.1
      rw [show st1.s = Dk.fixed st.s by rw [HSt.out]] at hX
      exact ⟨rfl, lab, ⟨fb, mb, M, E1, hX⟩, HCh.out.trans (Lab.refl _ _) HX.out.2, Lab.refl _ _⟩
    · intro m w1 cnt' hm hlq hrg1 hlt1 hg1 hs1 hen
      obtain ⟨i, s, hs', hq, hsi, hsl, hmn, hrow⟩ := HD.out.row m hm
      have hD1 : DiskM w1 d fb mb M E1 lab st1 := HD.out.keep (by omega) (fun k hk => hg1.block k (HD.out.old k hk) (fun e => by injection e with e; rw [e, HLr.out] at hk; exact hk rfl))
      have hrow1 : Row w1 lab i m.a m.n m.c hs' s.l := hrow.keep (fun k hk => hg1.block k (HD.out.old k hk) (fun e => by injection e with e; rw [e, HLr.out] at hk; exact hk rfl))
      have HD1 := Lib.hid hD1
      have HX := Lib.hid (And.intro hlq (And.intro hrg1 (And.intro hg1 (And.intro hs1 hlt1))))
      have HSi := Lib.hid hsi
      obtain ⟨q, a, n, c⟩ := m
      obtain rfl : q = (i : Int) := hq
      obtain rfl : n = s.l.length := hmn
      obtain ⟨k, hk⟩ : ∃ k, s.l.length = k + 1 := ⟨s.l.length - 1, by have := List.length_pos_iff.2 hsl; omega⟩
      obtain ⟨b, hb⟩ : ∃ b, s.l[k]? = some b := ⟨_, List.getElem?_eq_getElem (by omega)⟩
      have hlen := hrow1.len
      obtain ⟨x, hx⟩ : ∃ x, hs'[k]? = some x := ⟨_, List.getElem?_eq_getElem (by omega)⟩
      have hcell := hrow1.own.cell (j := k) (x := leafV x) (by rw [List.getElem?_map, hx]; rfl)
      replace hcell : w1.cell? ⟨a, k, none⟩ = some (.slice (some ⟨x, 0, none⟩) 128 128) := hcell
      have hbuf := (hrow1.leaf k x b hx hb).1
      have hb128 : b.length = 128 := ((HD.out.fine.1 s (List.mem_of_getElem? hsi)).2.2 b (List.mem_of_getElem? hb)).1
      have hil := (List.getElem?_eq_some_iff.1 hsi).1
      have hrd := hbuf.all
      rw [hb128] at hrd
      have hnow : b = s.now := (last_of hk hb).symm
      have HNow := Lib.hid hnow
      have HP := Lib.hid (part_m i w1.drew d fb mb M E1 lab st1 (hD1.keep (Nat.le_refl _) (fun _ _ => rfl)) hil)
      obtain ⟨w2, hcp, hb2, hc2⟩ := run_copyF (w := w1.drew) (hD1.buf.block rfl) (i * 128) 128 (M - i * 128) (some ⟨x, 0, none⟩) 128 128 b hrd (Nat.le_refl _) (by rw [flatF_length hD1.f128]; omega) 3
      replace hcp : (Builtin.copy_ #[28, 28] 3 #[.slice (some ⟨fb, i * 128, none⟩) 128 (M - i * 128), .slice (some ⟨x, 0, none⟩) 128 128]).run Try.prog w1.drew = .ok (.int .i64 128) w2 := hcp
      have hafb : a ≠ fb := fun e => by have := hrow1.tag; rw [show Dm.Mp.a ⟨(i : Int), a, s.l.length, c⟩ = a from rfl, e, hD1.tags.2.1] at this; cases this
      have hcell2 : w2.cell? ⟨a, k, none⟩ = some (.slice (some ⟨x, 0, none⟩) 128 128) := (World.cell?_of_block (a := ⟨a, k, none⟩) (hc2.block a (hD1.old a (by have := hrow1.tag; rw [show Dm.Mp.a ⟨(i : Int), a, s.l.length, c⟩ = a from rfl] at this; rw [this]; simp)) hafb)).trans hcell
      rw [flatF_put hD1.f128 hsi (Nat.le_of_eq hb128), hb128] at hb2
      have hk2 : (k : Int) < 9223372036854775807 := by
        have a1 : s.l.length ≤ c := hrow1.own.fits
        have a2 : c ≤ 9223372036854775807 := hrow1.own.small
        omega
      have HB2 := Lib.hid hb2
      have HC2 := Lib.hid (show Ch1 fb w1 w2 from ⟨hc2.os, hc2.tape, hc2.output, hc2.size, hc2.block⟩)
      replace hen : (Instr.entry (.pointer (some ⟨w.heap.size, 0, none⟩))).run Try.prog w1 = .ok (.tuple #[.int .i64 (i : Int), .slice (some ⟨a, 0, none⟩) s.l.length c]) w1 := hen
      have HB128 := Lib.hid hb128
      have HBx := Lib.hid hbuf.2
      have hw1 : IntKind.i64.wrap ((s.l.length : Int) - 1) = (k : Int) := by rw [hk, show ((k + 1 : Nat) : Int) - 1 = (k : Int) by omega]; exact IntWalk.i64_in _ (by omega)
      have hw2 : (0 : Int) ≤ (k : Int) := by omega
      have hw3 : (k : Int) < (s.l.length : Int) := by omega
      have hw4 : k < s.l.length := by omega
      generalize s.l.length = N at *
      clear hlq hrg1 hlt1 hg1 hs1 hsi hrow hD1 hrow1 hlen hx hbuf hil hrd hnow hb hb2 hc2 hm hk hafb hb128 hsl
      go_upto_region 7 with fail
      go_cut [30] from 21 to 30 (fun s30 wx => wx = w2)
      case first =>
        go_region_held3 (fun wx => wx.cell? ⟨a, k, none⟩ = some (.slice (some ⟨x, 0, none⟩) 128 128)) (first | exact hcell | exact hcell2) (first
          | (go_at_call 67; refine HP.out.mono ?_; rintro e w' ⟨rfl, rfl⟩))
        all_goals
          go_wp2_with fail
          go_meet
          exact rfl
      case rest =>
        obtain rfl : wc = w2 := hcut
        obtain ⟨hlq, hrg1, hg1, hs1, hlt1⟩ := HX.out
        have hne1 : mb ≠ fb := fun e => by have := HD1.out.tags.2.2; rw [e, HD1.out.tags.2.1] at this; cases this
        have hne2 : w.heap.size ≠ fb := fun e => by have := HLr.out; rw [e, HD1.out.tags.2.1] at this; cases this
        have hrg2 := hrg1.kept HC2.out.grown (fun e => hne1 (by injection e)) (fun e => hne2 (by injection e))
        have hdf : d ≠ fb := fun e => by have := HD1.out.tags.1; rw [e, HD1.out.tags.2.1] at this; cases this
        have c1 : wc.cell? ⟨d, 1, none⟩ = some (.map (some mb)) := (World.cell?_of_block (a := ⟨d, 1, none⟩) (HC2.out.block d (HD1.out.old d (by rw [HD1.out.tags.1]; simp)) hdf)).trans (HD1.out.box.at_ 1 rfl)
        have HG2 := Lib.hid hrg2
        have hKq : Q64 (i : Int) := by
          have := (List.getElem?_eq_some_iff.1 HSi.out).1
          have := HD1.out.fine.2.2
          constructor <;> omega
        have HKq := Lib.hid hKq
        have HX2 := Lib.hid (And.intro hg1 hlt1)
        clear hrg1 hrg2 hg1 hlt1 hs1 hlq hKq hcp hcell hcell2 hen hw1 hw2 hw3 hw4 hdf hne1 hne2
        go_wp2_with (at_delete; refine wpList_delete_ranges _ rfl (.tmp 34) (.tmp 35) 87 3 rfl 111 keyed Try.underlying87 Dm.elem mb w.heap.size 1000000 (Dm.dat E1) _ cnt' rfl HG2.out (.int .i64 (i : Int)) (.int .i64 (i : Int)) rfl (key_of HKq.out) ?_; intro w3 cnt'' hrg3 hle3 htn3)
        have HI := Lib.hid (fl_next HD1.out HSi.out HB2.out HC2.out HB128.out HBx.out HNow.out HFl.out HLf.out HCh.out HX2.out.1 htn3 hrg3)
        have hM := hrg3.left_eq
        have hC := HC.out
        have hlt := HX2.out.2
        clear hrg3 htn3 c1
        go_roundw
        case rel => exact HI.out
        case measure => rw [hM, hC]; omega
end Go.Proofs.Ytbdomhookjmmgaa
namespace Go.Proofs.Ytbdomhookjmmgaa
open Go.RowKit
set_option linter.unusedVariables false
set_option maxRecDepth 100000 in
theorem flush_any (k : Nat) (w : World) (d : Nat) (lab : Nat → Tag) (st : Dk.St) (h : IsDisk w d lab st) (hlow : st.low k) (hk : k ≤ 1000) :
    Calls Try.prog 37 #[.pointer (some ⟨d, 0, none⟩)] w fun e w' => e = .returned (.int .i64 st.flushE) ∧ Left lab d st.flush w w' := by
  obtain ⟨fb, mb, M, E, h⟩ := h
  obtain ⟨l1, l2, l3, l4, l5⟩ := hlow
  cases hd : st.down
  · have e1 : st.flushE = 0 := by unfold Dk.St.flushE; rw [hd]; rfl
    have e2 : st.flush = Dk.St.burn ⟨Dk.fixed st.s, st.n, st.fused, st.left⟩ := by unfold Dk.St.flush; rw [e1]; rfl
    rw [e1, e2]
    exact flush_m w d fb mb M E lab st h hd ⟨l1, by omega⟩ ⟨by omega, by omega⟩
  · have e1 : st.flushE = 30 := by unfold Dk.St.flushE; rw [hd]; rfl
    have e2 : st.flush = st := by unfold Dk.St.flush; rw [e1]; rfl
    rw [e1, e2]
    have HR := Lib.hid (ready_m 0 w d fb mb M E lab st h)
    have er : st.ready 0 = 30 := by unfold Dk.St.ready; rw [hd]; rfl
    rw [er] at HR
    have H := Lib.hid h
    clear h e1 e2 er hd
    go_enter Try.func37, Try.ntmps37
    go_wp2_with (go_at_call 60; refine HR.out.mono ?_; rintro e w' ⟨rfl, rfl⟩)
    go_ret
    exact ⟨rfl, lab, ⟨fb, mb, M, E, H.out⟩, Chg.refl _ _, Lab.refl _ _⟩
/-- The labels of a new disk. -/
def lab3 (f m d : Nat) : Nat → Tag := fun k => if k = f then .buf else if k = m then .map else if k = d then .box else .no
theorem flatF_new (k : Nat) : flatF (List.replicate k ⟨Dk.zeros, []⟩) = List.replicate (k * 128) 0 := by
  induction k with
  | zero => rfl
  | succ k ih =>
    rw [List.replicate_succ]
    show Dk.zeros ++ flatF _ = _
    rw [ih]
    unfold Dk.zeros
    rw [List.replicate_append_replicate]
    congr 1
    omega
theorem disk_new {w' : World} {d fb mb k : Nat} {L : List Dk.Sec} (hk1 : 1 ≤ k) (hk2 : k ≤ 4096) (hL : L.length = k) (hl : ∀ s ∈ L, s.l = [] ∧ s.f.length = 128) (hb : Buf w' fb (flatF L)) (hm : Mk w' mb []) (hd : Holds w' d [.slice (some ⟨fb, 0, none⟩) (k * 128) (k * 128), .map (some mb), .int .i64 0, .bool false, .int .i64 0]) (h1 : fb ≠ mb) (h2 : fb ≠ d) (h3 : mb ≠ d) : DiskM w' d fb mb (k * 128) [] (lab3 fb mb d) ⟨L, 0, false, 0⟩ where
  box := hd
  len := by show k * 128 = 128 * L.length; rw [hL]; omega
  buf := hb
  map := hm
  ris := List.Pairwise.nil
  row := fun m h => by simp at h
  all := fun i s hs hne => absurd (hl s (List.mem_of_getElem? hs)).1 hne
  tags := by
    refine ⟨?_, ?_, ?_⟩
    · unfold lab3; rw [if_neg (Ne.symm h2), if_neg (Ne.symm h3), if_pos rfl]
    · unfold lab3; rw [if_pos rfl]
    · unfold lab3; rw [if_neg (Ne.symm h1), if_pos rfl]
  old := fun j hj => by
    unfold lab3 at hj
    split at hj
    · rename_i e; subst e; exact hb.lt
    · split at hj
      · rename_i e; subst e; exact hm.lt
      · split at hj
        · rename_i e; subst e; exact hd.1
        · exact absurd rfl hj
  fine := by
    refine ⟨fun s hs => ⟨(hl s hs).2, fun x hx => hb.2 x ?_, fun b hb2 => by rw [(hl s hs).1] at hb2; simp at hb2⟩, by show 1 ≤ L.length; omega, by show L.length ≤ 4096; omega⟩
    unfold flatF
    exact List.mem_flatMap.2 ⟨s, hs, hx⟩
/-- A new disk, in memory of its own. -/
def GivesDisk (w : World) (st : Dk.St) (g : Nat) (w' : World) : Prop := ∃ lab, IsDisk w' g lab st ∧ Below w.heap.size w w' ∧ ∀ k, lab k ≠ .no → w.heap.size ≤ k
/-- What blank gives. -/
def Blank (k : Nat) (w : World) (e : Ending) (w' : World) : Prop := ∃ fb mb d, e = .returned (.pointer (some ⟨d, 0, none⟩)) ∧ DiskM w' d fb mb (k * 128) [] (lab3 fb mb d) (Dk.St.new k) ∧ Below w.heap.size w w' ∧ w.heap.size ≤ fb ∧ w.heap.size ≤ mb ∧ w.heap.size ≤ d
set_option maxRecDepth 100000 in
theorem blank_any (k : Nat) (w : World) (hk1 : 1 ≤ k) (hk2 : k ≤ 4096) : Calls Try.prog 58 #[.int .i64 (k : Int)] w (Blank k w) := by
  have hmk : ∀ w : World, (Instr.makeSlice 28 (.int .i64 ((k : Int) * 128)) (.int .i64 ((k : Int) * 128))).run Try.prog w = .ok (.slice (some ⟨w.heap.size, 0, none⟩) (k * 128) (k * 128)) (w.alloc (.cells (madeCells #[.int .u8 0] (k * 128)) 5)) := by
    have := make_all (k * 128) (by omega)
    rw [show ((k * 128 : Nat) : Int) = (k : Int) * 128 by simp] at this
    exact this
  have hmm := @run_makeMap Try.prog
  have hki : (k : Int) ≤ 4096 := by omega
  have hk0 : (0 : Int) ≤ (k : Int) := by omega
  go_enter Try.func58, Try.ntmps58
  go_wp2
  go_ret
  have e1 : (w.alloc (.cells (madeCells #[.int .u8 0] (k * 128)) 5)).heap.size = w.heap.size + 1 := by simp
  have e2 : ((w.alloc (.cells (madeCells #[.int .u8 0] (k * 128)) 5)).alloc (.map #[] 0)).heap.size = w.heap.size + 1 + 1 := by simp
  have hB := buf_zeros w (k * 128)
  have hM := Mk.new (w.alloc (.cells (madeCells #[.int .u8 0] (k * 128)) 5))
  have hD := Holds.new ((w.alloc (.cells (madeCells #[.int .u8 0] (k * 128)) 5)).alloc (.map #[] 0)) #[.slice (some ⟨w.heap.size, 0, none⟩) (k * 128) (k * 128), .map (some (w.heap.size + 1)), .int .i64 0, .bool false, .int .i64 0] 89
  rw [e1] at hM
  rw [e2] at hD
  have ha : ∀ (v : World) (o : Obj), Below v.heap.size v (v.alloc o) := fun v o => (Below.refl _ _).alloc (Nat.le_refl _) o
  refine ⟨w.heap.size, w.heap.size + 1, w.heap.size + 1 + 1, rfl, disk_new hk1 hk2 (by simp) (fun s hs => ?_) ?_ (hM.below (ha _ _)) hD (by omega) (by omega) (by omega), (((Below.refl _ _).alloc (Nat.le_refl _) _).alloc (by simp) _).alloc (by simp; omega) _, by omega, by omega, by omega⟩
  · rw [List.eq_of_mem_replicate hs]
    exact ⟨rfl, by simp [Dk.zeros]⟩
  · rw [flatF_new]
    exact (hB.below (ha _ _)).below (ha _ _)
theorem lab3_new {w : World} {f m d k : Nat} (h1 : w.heap.size ≤ f) (h2 : w.heap.size ≤ m) (h3 : w.heap.size ≤ d) (h : lab3 f m d k ≠ .no) : w.heap.size ≤ k := by
  unfold lab3 at h
  split at h
  · omega
  · split at h
    · omega
    · split at h
      · omega
      · exact absurd rfl h
/-- What New gives. -/
def GivesNew (n : Int) (w : World) (e : Ending) (w' : World) : Prop :=
  (1 ≤ n ∧ n ≤ 4096 ∧ ∃ d lab, e = .returned (.tuple #[.pointer (some ⟨d, 0, none⟩), .int .i64 0]) ∧ IsDisk w' d lab (Dk.St.new n.toNat) ∧ Below w.heap.size w w' ∧ (∀ k, lab k ≠ .no → w.heap.size ≤ k)) ∨
  (¬ (1 ≤ n ∧ n ≤ 4096) ∧ e = .returned (.tuple #[.pointer none, .int .i64 1]) ∧ w = w')
set_option maxRecDepth 100000 in
theorem new_any (n : Int) (w : World) : Calls Try.prog 18 #[.int .i64 n] w (GivesNew n w) := by
  by_cases hn : 1 ≤ n ∧ n ≤ 4096
  · obtain ⟨k, rfl⟩ : ∃ k : Nat, n = (k : Int) := ⟨n.toNat, by omega⟩
    have q1 : ¬ (k : Int) < 1 := by omega
    have q2 : ¬ (4096 : Int) < (k : Int) := by omega
    have HB := Lib.hid (blank_any k w (by omega) (by omega))
    have HN := Lib.hid hn
    clear hn
    go_enter Try.func18, Try.ntmps18
    go_wp2_with fail
    refine HB.out.mono ?_
    intro e w1 hg
    obtain ⟨fb, mb, d, rfl, hd, hb, l1, l2, l3⟩ := hg
    have HX := Lib.hid (And.intro hd (And.intro hb (And.intro l1 (And.intro l2 l3))))
    clear hd hb l1 l2 l3
    go_wp2
    go_ret2
    obtain ⟨hd, hb, l1, l2, l3⟩ := HX.out
    exact .inl ⟨HN.out.1, HN.out.2, d, _, rfl, ⟨fb, mb, k * 128, [], by rw [Int.toNat_natCast]; exact hd⟩, hb, fun j hj => lab3_new l1 l2 l3 hj⟩
  · have HN := Lib.hid hn
    have key : n < 1 ∨ (¬ n < 1 ∧ 4096 < n) := by omega
    clear hn
    rcases key with k1 | ⟨k1, k2⟩
    all_goals
      go_enter Try.func18, Try.ntmps18
      go_wp2
      go_ret2
      exact .inr ⟨HN.out, rfl, rfl⟩
end Go.Proofs.Ytbdomhookjmmgaa
