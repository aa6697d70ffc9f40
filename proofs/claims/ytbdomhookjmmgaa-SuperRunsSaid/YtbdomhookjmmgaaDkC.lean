/- The program's disk: Write. Words for the bits of numbers: and, or, exclusive or of unsigned numbers as natural numbers; a number whose low bits are nothing, with some put in. The program's disk: Write of anything, Rot. -/
import Derived.Test.YtbdomhookjmmgaaDkB
import Derived.Test.YtbdomhookjmmgaaBytes
namespace Go.Proofs.Ytbdomhookjmmgaa
open Go.RowKit
set_option linter.unusedVariables false
theorem below_of_drew {w v : World} (h : Below w.heap.size w.drew v) : Below w.heap.size w v := ((Below.refl w.heap.size w).drew).trans h
theorem app_stays {w u2 w3 : World} {d fb mb M i n0 c0 a' c' : Nat} {E : List Dm.Mp} {lab : Nat → Tag} {st : Dk.St} {A0 : Option Addr} {vs : List Value} (h : DiskM w d fb mb M E lab st) (hrow : ∀ g, (Value.slice A0 n0 c0).ownBlock = some g → lab g = .row i)
    (hb : Below w.heap.size w u2) (hg : GrewV u2 w3 0 28 A0 (some ⟨a', 0, none⟩) n0 c0 (n0 + 1) c' vs) : w3.cell? ⟨d, 1, none⟩ = some (.map (some mb)) ∧ Mk w3 mb E := by
  have hk : ∀ k, lab k ≠ .no → lab k ≠ .row i → w3.heap[k]? = w.heap[k]? := fun k h1 h2 =>
    (hg.grew.block k (Nat.lt_of_lt_of_le (h.old k h1) hb.size) (fun e => h2 (hrow k e.symm))).trans (hb.block k (h.old k h1))
  exact ⟨(World.cell?_of_block (a := ⟨d, 1, none⟩) (hk d (by rw [h.tags.1]; simp) (by rw [h.tags.1]; simp))).trans (h.box.at_ 1 rfl), h.map.block (hk mb (by rw [h.tags.2.2]; simp) (by rw [h.tags.2.2]; simp))⟩
theorem turned_cell {w w' : World} {b d i : Nat} (h : w.mapTurned w' b) (hne : d ≠ b) : w'.cell? ⟨d, i, none⟩ = w.cell? ⟨d, i, none⟩ := by
  obtain ⟨es, ck, es', ck', _, rfl⟩ := h
  exact World.cell?_of_block (a := ⟨d, i, none⟩) (setBlock_other hne)
/-- What the writing leaves ahead of the counting. -/
def Wrote (w : World) (d fb mb M i : Nat) (lab : Nat → Tag) (st : Dk.St) (b : List Nat) (wx : World) : Prop :=
  ∃ lab' E', DiskM wx d fb mb M E' lab' ⟨Dk.upd st.s i (fun s => ⟨s.f, s.l ++ [b]⟩), st.n, st.fused, st.left⟩ ∧ Chg lab w wx ∧ Lab w lab lab'
set_option maxRecDepth 100000 in
set_option maxHeartbeats 4000000 in
/-- The write of a sector, up to the counting. -/
theorem write_m (i : Nat) (A : Option Addr) (c : Nat) (b : List Nat) (w : World) (d fb mb M : Nat) (E : List Dm.Mp) (lab : Nat → Tag) (st : Dk.St) (h : DiskM w d fb mb M E lab st) (hb : Rd w A 128 b) (hr : st.ready (i : Int) = 0) {s : Dk.Sec} (hs : st.s[i]? = some s) (hl : s.l.length ≤ 1000) (hn : 0 ≤ st.n ∧ st.n ≤ 1000000000) (hf : -1000000000 ≤ st.left ∧ st.left ≤ 1000000000) (hE : E.length ≤ 10000) :
    Calls Try.prog 26 #[.pointer (some ⟨d, 0, none⟩), .int .i64 (i : Int), .slice A 128 c] w fun e w' => e = .returned (.int .i64 0) ∧ Left lab d (Dk.St.burn ⟨Dk.upd st.s i (fun s => ⟨s.f, s.l ++ [b]⟩), st.n, st.fused, st.left⟩) w w' := by
  have HR := Lib.hid (ready_m (i : Int) w d fb mb M E lab st h)
  rw [hr] at HR
  have hil := (List.getElem?_eq_some_iff.1 hs).1
  have hN := h.fine.2.2
  have hq : Q64 (i : Int) := by constructor <;> omega
  -- the row that is there, or none
  obtain ⟨A0, n0, c0, hs0, hlook, hrow, hn0, hlen0, hleaf, hown⟩ : ∃ (A0 : Option Addr) (n0 c0 : Nat) (hs0 : List Nat), (∀ W, W.heap[mb]? = w.heap[mb]? → (Instr.lookup 87 (.map (some mb)) (.int .i64 (i : Int)) false).run Try.prog W = .ok (.slice A0 n0 c0) W) ∧
      (∀ g, (Value.slice A0 n0 c0).ownBlock = some g → lab g = .row i) ∧ n0 = s.l.length ∧ hs0.length = s.l.length ∧ (∀ (j h : Nat) (b : List Nat), hs0[j]? = some h → s.l[j]? = some b → Buf w h b ∧ lab h = .leaf) ∧ OwnV w 0 28 A0 n0 c0 (hs0.map leafV) := by
    by_cases h0 : s.l = []
    · exact ⟨none, 0, 0, [], fun W hW => (h.map.block hW).look_no hq (hasq_no_of h hs h0), (fun g e => by cases e), (by rw [h0]; rfl), (by rw [h0]; rfl), (fun j h b e => by simp at e), OwnV.none_ _ _ _⟩
    · obtain ⟨m, hs', hm, hq2, hmn, hrow⟩ := row_of h hs h0
      refine ⟨some ⟨m.a, 0, none⟩, m.n, m.c, hs', fun W hW => ?_, fun g e => ?_, hmn, hrow.len, hrow.leaf, hrow.own⟩
      · have := (h.map.block hW).look_yes h.ris hm (by rw [hq2]; exact hq)
        rw [hq2] at this
        exact this
      · injection e with e
        rw [← e]
        exact hrow.tag
  have c1 := h.box.at_ 1 rfl
  have HSec := Lib.hid (fun W (hW : Below w.heap.size w W) => sector_any A c b W (hb.below hW))
  have H := Lib.hid h
  have HLk := Lib.hid hlook
  have HRow := Lib.hid hrow
  have HN0 := Lib.hid hn0
  have HLen := Lib.hid hlen0
  have HLf := Lib.hid hleaf
  have HOwn := Lib.hid hown
  have HS := Lib.hid hs
  have HB := Lib.hid hb.1
  have hmb := h.old mb (by rw [h.tags.2.2]; simp)
  have hd : Below w.heap.size w w.drew := (Below.refl _ _).drew
  have hlk1 := hlook w rfl
  have hlk2 := hlook w.drew rfl
  have hl3 : n0 + 1 ≤ 1000000 := by omega
  have HQ := Lib.hid hq
  have hdm := Lib.hid (show d ≠ mb from fun e => by have := h.tags.1; rw [e, h.tags.2.2] at this; cases this)
  clear hb hr h hs hN hq hlook hrow hn0 hlen0 hleaf hown hil
  go_enter Try.func26, Try.ntmps26
  go_wp2_with fail
  refine HR.out.mono ?_
  rintro e w' ⟨rfl, rfl⟩
  go_upto_region 6 with fail
  have hcl : ∀ wx, Below w.heap.size w wx → wx.cell? ⟨d, 1, none⟩ = some (.map (some mb)) := fun wx hx => (H.out.box.below hx).at_ 1 rfl
  have HCl := Lib.hid hcl
  clear hcl
  have h1c : ∀ u ∈ [leafV w.heap.size], u.oneCell' = true := by intro u hu; simp at hu; subst hu; rfl
  have HLb := Lib.hid (fun wx (hx : Below w.heap.size w wx) => HLk.out wx (hx.block mb hmb))
  go_cut [17] from 17 to 31 (fun s17 wx => Wrote w d fb mb M i lab st b wx)
  case first =>
    go_region_held3 (fun wx => wx.cell? ⟨d, 1, none⟩ = some (.map (some mb))) (first | exact HCl.out _ hd | exact HCl.out _ hB1 | exact HCl.out _ hB2 | exact hst3.1 | exact hst4) (first
      | (go_at_call 61; refine (HSec.out _ hd).mono ?_; rintro e u1 ⟨rfl, hb1, hbf⟩; have hB1 : Below w.heap.size w u1 := below_next hd hb1; have hB2 : Below w.heap.size w (u1.alloc (.cells #[.slice (some ⟨w.heap.size, 0, none⟩) 128 128] 28)) := hB1.alloc hB1.size _; have hlk3 := HLb.out _ hB1; have hlk4 := HLb.out _ hB2; have hOw := (HOwn.out.below hB1).alloc (.cells #[.slice (some ⟨w.heap.size, 0, none⟩) 128 128] 28); have hRn := rdv_one u1 28 (.slice (some ⟨w.heap.size, 0, none⟩) 128 128))
      | (refine step_appV row_one (by rfl) (.tmp 27) (.tmp 30) rfl rfl hOw (some ⟨u1.heap.size, 0, none⟩) 1 1 [leafV w.heap.size] h1c rfl hRn hl3 (Nat.zero_le _) ?_; intro A3 c3 w3 hg3; obtain ⟨a3, hA3, _, _⟩ := hg3.own.form (by omega); subst hA3; have hst3 := app_stays H.out HRow.out hB2 hg3; obtain ⟨w4, hup, hmk, htn⟩ := Mk.store (m := ⟨(i : Int), a3, n0 + 1, c3⟩) hst3.2 hE HQ.out; replace hup : (Instr.mapUpdate 87 (.map (some mb)) (.int .i64 (i : Int)) (.slice (some ⟨a3, 0, none⟩) (n0 + 1) c3)).run Try.prog w3 = .ok () w4 := hup; have hst4 : w4.cell? ⟨d, 1, none⟩ = some (.map (some mb)) := (turned_cell htn hdm.out).trans hst3.1))
    all_goals
      have HW := Lib.hid (H.out.wrote HS.out HRow.out HN0.out HLen.out HLf.out hB1 hbf HB.out ((Below.refl u1.heap.size u1).alloc (Nat.le_refl _) (.cells #[.slice (some ⟨w.heap.size, 0, none⟩) 128 128] 28)) hg3 hmk (turned_ch htn))
      clear hg3 hmk htn hup hst3 hst4
      go_wp2_with fail
      go_meet
      exact ⟨_, _, HW.out⟩
  case rest =>
    obtain ⟨lab', E', hD, hc, hlb⟩ := hcut
    have HD := Lib.hid hD
    have HC := Lib.hid hc
    have HLb2 := Lib.hid hlb
    clear hD hc hlb hlk1 hlk2 c1 h1c
    go_wp2_with fail
    refine (burn_m wc d _ _ st.n st.left st.fused HD.out.box hn hf).mono ?_
    rintro e w5 ⟨rfl, hb5, hc5⟩
    have HX := Lib.hid (HD.out.boxed _ _ _ hb5 hc5)
    clear hb5 hc5
    go_wp2
    go_ret
    exact ⟨rfl, lab', ⟨fb, mb, M, E', HX.out.1⟩, HC.out.trans HLb2.out HX.out.2, HLb2.out⟩
end Go.Proofs.Ytbdomhookjmmgaa
namespace Go.Proofs.Ytbdomhookjmmgaa
open Go.RowKit
theorem toNat_u8 (a : Nat) (ha : a < 256) : (BitVec.ofInt 8 (a : Int)).toNat = a := by
  rw [BitVec.ofInt_natCast, BitVec.toNat_ofNat]; exact Nat.mod_eq_of_lt (by omega)
theorem toNat_u64 (a : Nat) (ha : a < 18446744073709551616) : (BitVec.ofInt 64 (a : Int)).toNat = a := by
  rw [BitVec.ofInt_natCast, BitVec.toNat_ofNat]; exact Nat.mod_eq_of_lt (by omega)
theorem u8_or_nat (a b : Nat) (ha : a < 256) (hb : b < 256) : bits .or .u8 (a : Int) (b : Int) = ((a ||| b : Nat) : Int) := by
  have hx : a ||| b < 2 ^ 8 := Nat.or_lt_two_pow (by omega) (by omega)
  show IntKind.u8.wrap ((BitVec.ofInt 8 (a : Int) ||| BitVec.ofInt 8 (b : Int)).toNat : Int) = _
  rw [BitVec.toNat_or, toNat_u8 a ha, toNat_u8 b hb, IntKind.wrap_u8]
  omega
theorem u8_xor_nat (a b : Nat) (ha : a < 256) (hb : b < 256) : bits .xor .u8 (a : Int) (b : Int) = ((a ^^^ b : Nat) : Int) := by
  have hx : a ^^^ b < 2 ^ 8 := Nat.xor_lt_two_pow (by omega) (by omega)
  show IntKind.u8.wrap ((BitVec.ofInt 8 (a : Int) ^^^ BitVec.ofInt 8 (b : Int)).toNat : Int) = _
  rw [BitVec.toNat_xor, toNat_u8 a ha, toNat_u8 b hb, IntKind.wrap_u8]
  omega
theorem u8_and_nat (a b : Nat) (ha : a < 256) (hb : b < 256) : bits .and .u8 (a : Int) (b : Int) = ((a &&& b : Nat) : Int) := by
  have hx : a &&& b < 2 ^ 8 := Nat.and_lt_two_pow _ (by omega)
  show IntKind.u8.wrap ((BitVec.ofInt 8 (a : Int) &&& BitVec.ofInt 8 (b : Int)).toNat : Int) = _
  rw [BitVec.toNat_and, toNat_u8 a ha, toNat_u8 b hb, IntKind.wrap_u8]
  omega
theorem u64_or_nat (a b : Nat) (ha : a < 18446744073709551616) (hb : b < 18446744073709551616) : bits .or .u64 (a : Int) (b : Int) = ((a ||| b : Nat) : Int) := by
  have hx : a ||| b < 2 ^ 64 := Nat.or_lt_two_pow (by omega) (by omega)
  show IntKind.u64.wrap ((BitVec.ofInt 64 (a : Int) ||| BitVec.ofInt 64 (b : Int)).toNat : Int) = _
  rw [BitVec.toNat_or, toNat_u64 a ha, toNat_u64 b hb, IntKind.wrap_u64]
  omega
theorem i64_or_nat (a b : Nat) (ha : a < 9223372036854775808) (hb : b < 9223372036854775808) : bits .or .i64 (a : Int) (b : Int) = ((a ||| b : Nat) : Int) := by
  have hx : a ||| b < 2 ^ 63 := Nat.or_lt_two_pow (by omega) (by omega)
  show IntKind.i64.wrap ((BitVec.ofInt 64 (a : Int) ||| BitVec.ofInt 64 (b : Int)).toNat : Int) = _
  rw [BitVec.toNat_or, ofInt_i64 a ha, ofInt_i64 b hb, IntKind.wrap_i64]
  omega
/-- Low bits put into a number that has none there. -/
theorem or_low (a b k : Nat) (h : b < 2 ^ k) : a * 2 ^ k ||| b = a * 2 ^ k + b := by
  rw [← Nat.shiftLeft_eq, Nat.shiftLeft_add_eq_or_of_lt h]
theorem low_or (a b k : Nat) (h : b < 2 ^ k) : b ||| a * 2 ^ k = a * 2 ^ k + b := by
  rw [Nat.or_comm, or_low a b k h]
/-- A number's low seven bits, and the eighth set. -/
theorem or128_nat (n : Nat) : n % 256 ||| 128 = n % 128 + 128 := by
  have h : ∀ m : Fin 256, m.val ||| 128 = m.val % 128 + 128 := by decide +kernel
  have := h ⟨n % 256, Nat.mod_lt _ (by omega)⟩
  simp only at this
  rw [this]; omega
theorem or128 (n : Nat) : bits .or .u8 ((n : Int) % 256) 128 = ((n % 128 + 128 : Nat) : Int) := by
  have h := u8_or_nat (n % 256) 128 (Nat.mod_lt _ (by omega)) (by omega)
  rw [or128_nat] at h
  rw [← h]
  rfl
theorem own_u8 (x : Nat) (hx : x < 256) : (x : Int) % 256 = x := by omega
end Go.Proofs.Ytbdomhookjmmgaa
namespace Go.Proofs.Ytbdomhookjmmgaa
open Go.RowKit
set_option linter.unusedVariables false
theorem ris_len : ∀ {L : List Dm.Mp} {lo : Int} {k : Nat}, Dm.Ris L → (∀ m ∈ L, lo ≤ m.q ∧ m.q < lo + (k : Int)) → L.length ≤ k
  | [], _, _, _, _ => Nat.zero_le _
  | x :: xs, lo, k, h, hb => by
    obtain ⟨h1, h2⟩ := List.pairwise_cons.1 h
    have hx := hb x (by simp)
    have hk : 0 < k := by omega
    have := ris_len (lo := lo + 1) (k := k - 1) h2 (fun m hm => by have a1 := h1 m hm; have a2 := hb m (by simp [hm]); omega)
    simp only [List.length_cons]
    omega
theorem DiskM.few {w : World} {d fb mb M : Nat} {E : List Dm.Mp} {lab : Nat → Tag} {st : Dk.St} (h : DiskM w d fb mb M E lab st) : E.length ≤ 4096 := by
  have := ris_len (lo := 0) (k := st.s.length) h.ris (fun m hm => by
    obtain ⟨i, s, hs, h1, h2, _⟩ := h.row m hm
    have := (List.getElem?_eq_some_iff.1 h2).1
    omega)
  have := h.fine.2.2
  omega
theorem write_yes {st : Dk.St} {i : Nat} {b : List Nat} (hr : st.ready (i : Int) = 0) (hb : b.length = 128) : st.writeE (i : Int) b.length = 0 ∧ st.write (i : Int) b = Dk.St.burn ⟨Dk.upd st.s i (fun s => ⟨s.f, s.l ++ [b]⟩), st.n, st.fused, st.left⟩ := by
  have e : st.writeE (i : Int) b.length = 0 := by unfold Dk.St.writeE; rw [if_pos hr, if_pos hb]
  refine ⟨e, ?_⟩
  unfold Dk.St.write
  rw [if_pos e]
  rfl
set_option maxRecDepth 100000 in
theorem write_any (at_ : Int) (A : Option Addr) (n c k : Nat) (b : List Nat) (w : World) (d : Nat) (lab : Nat → Tag) (st : Dk.St) (h : IsDisk w d lab st) (hb : Rd w A n b) (hlow : st.low k) (hk : k ≤ 1000) (hnn : n ≤ 9223372036854775807) :
    Calls Try.prog 26 #[.pointer (some ⟨d, 0, none⟩), .int .i64 at_, .slice A n c] w fun e w' => e = .returned (.int .i64 (st.writeE at_ b.length)) ∧ Left lab d (st.write at_ b) w w' := by
  obtain ⟨fb, mb, M, E, h⟩ := h
  obtain ⟨l1, l2, l3, l4, l5⟩ := hlow
  have hbl := hb.1
  by_cases hr : st.ready at_ = 0
  · by_cases hn : n = 128
    · subst hn
      obtain ⟨i, s, rfl, hs, _, _⟩ := ready_in hr
      obtain ⟨e1, e2⟩ := write_yes hr hbl
      rw [e1, e2]
      exact write_m i A c b w d fb mb M E lab st h hb hr hs (Nat.le_trans (l5 s (List.mem_of_getElem? hs)) hk) ⟨l1, by omega⟩ ⟨by omega, by omega⟩ (Nat.le_trans h.few (by omega))
    · have e1 : st.writeE at_ b.length = 1 := by unfold Dk.St.writeE; rw [if_pos hr, if_neg (by omega)]
      have e2 : st.write at_ b = st := by unfold Dk.St.write; rw [e1]; rfl
      rw [e1, e2]
      have HR := Lib.hid (ready_m at_ w d fb mb M E lab st h)
      rw [hr] at HR
      have H := Lib.hid h
      have hnb : ((n : Int) == 128) = false := by simp; omega
      have hnb2 : ((n : Int) != 128) = true := by simp; omega
      clear hr hbl hb h e1 e2 hn
      go_enter Try.func26, Try.ntmps26
      go_wp2_with (go_at_call 60; refine HR.out.mono ?_; rintro e w' ⟨rfl, rfl⟩)
      go_ret
      exact ⟨rfl, lab, ⟨fb, mb, M, E, H.out⟩, Chg.refl _ _, Lab.refl _ _⟩
  · have e1 : st.writeE at_ b.length = st.ready at_ := by unfold Dk.St.writeE; rw [if_neg hr]
    have e2 : st.write at_ b = st := by unfold Dk.St.write; rw [e1, if_neg hr]
    rw [e1, e2]
    have HR := Lib.hid (ready_m at_ w d fb mb M E lab st h)
    have H := Lib.hid h
    have hne : ((st.ready at_) == 0) = false := by simpa using hr
    have hne2 : ((st.ready at_) != 0) = true := by simpa using hr
    clear hbl hb h e1 e2
    generalize st.ready at_ = E0 at *
    go_enter Try.func26, Try.ntmps26
    go_wp2_with (go_at_call 60; refine HR.out.mono ?_; rintro e w' ⟨rfl, rfl⟩)
    go_ret
    exact ⟨rfl, lab, ⟨fb, mb, M, E, H.out⟩, Chg.refl _ _, Lab.refl _ _⟩
theorem flatF_set {L : List Dk.Sec} (h : ∀ s ∈ L, s.f.length = 128) {i j : Nat} {s : Dk.Sec} (hs : L[i]? = some s) (hj : j < 128) (y : Nat) : (flatF L).set (i * 128 + j) y = flatF (Dk.upd L i (fun s => ⟨s.f.set j y, s.l⟩)) := by
  induction L generalizing i with
  | nil => simp at hs
  | cons x r ih =>
    have hx := h x (by simp)
    cases i with
    | zero =>
      simp at hs
      subst hs
      show (x.f ++ flatF r).set (0 * 128 + j) y = (x.f.set j y) ++ flatF r
      rw [Nat.zero_mul, Nat.zero_add, List.set_append_left _ _ (by omega)]
    | succ i =>
      simp only [List.getElem?_cons_succ] at hs
      show (x.f ++ flatF r).set ((i + 1) * 128 + j) y = x.f ++ flatF (Dk.upd r i _)
      rw [List.set_append_right _ _ (by omega), hx, show (i + 1) * 128 + j - 128 = i * 128 + j by omega, ih (fun z hz => h z (by simp [hz])) hs]
theorem flatF_cell {L : List Dk.Sec} (h : ∀ s ∈ L, s.f.length = 128) {i j x : Nat} {s : Dk.Sec} (hs : L[i]? = some s) (hx : s.f[j]? = some x) : (flatF L)[i * 128 + j]? = some x := by
  have h1 := flatF_at h hs
  have hj : j < 128 := by have := (List.getElem?_eq_some_iff.1 hx).1; have := h s (List.mem_of_getElem? hs); omega
  rw [← h1, List.getElem?_take, if_pos hj, List.getElem?_drop] at hx
  exact hx
/-- The buffer is written anew. -/
theorem DiskM.rebuf {w w' : World} {d fb mb M : Nat} {E : List Dm.Mp} {lab : Nat → Tag} {st : Dk.St} {L : List Dk.Sec} (h : DiskM w d fb mb M E lab st) (hb : Buf w' fb (flatF L)) (hc : Ch1 fb w w') (hlen : L.length = st.s.length) (hl : ∀ i : Nat, (L[i]?).map (fun x : Dk.Sec => x.l) = (st.s[i]?).map (fun x : Dk.Sec => x.l)) (hf : ∀ s ∈ L, s.f.length = 128 ∧ ∀ x ∈ s.f, x < 256) : DiskM w' d fb mb M E lab ⟨L, st.n, st.fused, st.left⟩ ∧ Chg lab w w' := by
  have hd : lab fb ≠ .no := by rw [h.tags.2.1]; simp
  have hk : ∀ k, lab k ≠ .no → lab k ≠ .buf → w'.heap[k]? = w.heap[k]? := fun k h1 h2 => hc.block k (h.old k h1) (fun e => h2 (by rw [e, h.tags.2.1]))
  have hat : ∀ (i : Nat) (s : Dk.Sec), st.s[i]? = some s → ∃ s' : Dk.Sec, L[i]? = some s' ∧ s'.l = s.l := fun i s e => by
    have := hl i
    rw [e] at this
    obtain ⟨s', h1, h2⟩ := Option.map_eq_some_iff.1 this
    exact ⟨s', h1, h2⟩
  have hat2 : ∀ (i : Nat) (s' : Dk.Sec), L[i]? = some s' → ∃ s : Dk.Sec, st.s[i]? = some s ∧ s'.l = s.l := fun i s' e => by
    have := hl i
    rw [e] at this
    obtain ⟨s, h1, h2⟩ := Option.map_eq_some_iff.1 this.symm
    exact ⟨s, h1, h2.symm⟩
  refine ⟨⟨h.box.block hc.size (hk d (by rw [h.tags.1]; simp) (by rw [h.tags.1]; simp)), by rw [h.len]; show _ = 128 * L.length; rw [hlen], hb, h.map.block (hk mb (by rw [h.tags.2.2]; simp) (by rw [h.tags.2.2]; simp)), h.ris, fun m hm => ?_, fun i s' e hne => ?_, h.tags, fun k hk => Nat.lt_of_lt_of_le (h.old k hk) hc.size, ⟨fun s hs => ?_, by show 1 ≤ L.length; rw [hlen]; exact h.fine.2.1, by show L.length ≤ 4096; rw [hlen]; exact h.fine.2.2⟩⟩, Chg.of_ch1 hc hd⟩
  · obtain ⟨i, s, hs, h1, h2, h3, h4, h5⟩ := h.row m hm
    obtain ⟨s', g1, g2⟩ := hat i s h2
    refine ⟨i, s', hs, h1, g1, by rw [g2]; exact h3, by rw [g2]; exact h4, ?_⟩
    rw [g2]
    refine ⟨h5.tag, h5.own.block (hk _ (by rw [h5.tag]; simp) (by rw [h5.tag]; simp)), h5.len, fun j x b e1 e2 => ?_⟩
    obtain ⟨g1, g2⟩ := h5.leaf j x b e1 e2
    exact ⟨g1.block (hk x (by rw [g2]; simp) (by rw [g2]; simp)), g2⟩
  · obtain ⟨s, g1, g2⟩ := hat2 i s' e
    exact h.all i s g1 (by rw [← g2]; exact hne)
  · obtain ⟨i, hi⟩ := List.getElem?_of_mem hs
    obtain ⟨s0, g1, g2⟩ := hat2 i s hi
    obtain ⟨a1, a2, a3⟩ := h.fine.1 s0 (List.mem_of_getElem? g1)
    exact ⟨(hf s hs).1, (hf s hs).2, by rw [g2]; exact a3⟩
theorem map_l_upd (L : List Dk.Sec) (i j : Nat) (g : Dk.Sec → Dk.Sec) (hg : ∀ s, (g s).l = s.l) : ((Dk.upd L i g)[j]?).map (fun x : Dk.Sec => x.l) = (L[j]?).map (fun x : Dk.Sec => x.l) := by
  unfold Dk.upd
  rw [List.getElem?_modify]
  cases L[j]? with
  | none => rfl
  | some s => by_cases h : i = j <;> simp [h, hg]
theorem turn_set {b : List Nat} {j x m : Nat} (h : b[j]? = some x) : Dk.turn b j m = b.set j (x ^^^ m) := by
  unfold Dk.turn
  apply List.ext_getElem?
  intro k
  rw [List.getElem?_modify, List.getElem?_set]
  by_cases e : j = k
  · subst e
    obtain ⟨hl, e⟩ := List.getElem?_eq_some_iff.1 h
    simp [hl, e]
  · simp [e]
set_option maxRecDepth 100000 in
theorem rot_any (at_ place : Int) (m : Nat) (hm : m < 256) (w : World) (d : Nat) (lab : Nat → Tag) (st : Dk.St) (h : IsDisk w d lab st) :
    Calls Try.prog 29 #[.pointer (some ⟨d, 0, none⟩), .int .i64 at_, .int .i64 place, .int .u8 (m : Int)] w fun e w' => e = .returned (.int .i64 (st.rotE at_ place)) ∧ Left lab d (st.rot at_ place m) w w' := by
  obtain ⟨fb, mb, M, E, h⟩ := h
  have HS := Lib.hid (size_m w d fb mb M E lab st h)
  have hN1 := h.fine.2.1
  have hNi : ¬ (st.s.length : Int) = 0 := by omega
  have hNb : ((st.s.length : Int) == 0) = false := by simpa using hNi
  have H := Lib.hid h
  by_cases hg : st.has at_ = true ∧ 0 ≤ place ∧ place < 128
  · obtain ⟨h0, hp1, hp2⟩ := hg
    have h0' := h0
    unfold Dk.St.has at h0'
    rw [Bool.and_eq_true, decide_eq_true_eq, decide_eq_true_eq] at h0'
    obtain ⟨ha1, ha2⟩ := h0'
    have e1 : st.rotE at_ place = 0 := by unfold Dk.St.rotE; rw [if_pos ⟨h0, hp1, hp2⟩]
    obtain ⟨i, rfl⟩ : ∃ i : Nat, at_ = (i : Int) := ⟨at_.toNat, by omega⟩
    obtain ⟨j, rfl⟩ : ∃ j : Nat, place = (j : Int) := ⟨place.toNat, by omega⟩
    have hil : i < st.s.length := by omega
    obtain ⟨s, hs⟩ : ∃ s, st.s[i]? = some s := ⟨_, List.getElem?_eq_getElem hil⟩
    have hf := h.f128 s (List.mem_of_getElem? hs)
    have hj : j < 128 := by omega
    obtain ⟨x, hx⟩ : ∃ x, s.f[j]? = some x := ⟨_, List.getElem?_eq_getElem (by omega)⟩
    have e2 : st.rot (i : Int) (j : Int) m = ⟨Dk.upd st.s i (fun s => ⟨Dk.turn s.f j m, s.l⟩), st.n, st.fused, st.left⟩ := by unfold Dk.St.rot; rw [e1]; rfl
    rw [e1, e2]
    have hx256 : x < 256 := (h.fine.1 s (List.mem_of_getElem? hs)).2.1 x (List.mem_of_getElem? hx)
    have hcell := h.buf.cell (flatF_cell h.f128 hs hx)
    have hfree := h.buf.free (i * 128 + j)
    have hxor := u8_xor_nat x m hx256 hm
    have HP := Lib.hid (part_m i w d fb mb M E lab st h hil)
    have hy : x ^^^ m < 256 := by
      have : x ^^^ m < 2 ^ 8 := Nat.xor_lt_two_pow (by omega) (by omega)
      omega
    have HY := Lib.hid hy
    have q1 : ¬ (i : Int) < 0 := by omega
    have q2 : ¬ (st.s.length : Int) ≤ (i : Int) := by omega
    have q3 : ¬ (j : Int) < 0 := by omega
    have q4 : ¬ (128 : Int) ≤ (j : Int) := by omega
    have HSs := Lib.hid hs
    have HXx := Lib.hid hx
    have hii : (i : Int) ≤ 4096 := by have := h.fine.2.2; omega
    clear e1 e2 h hs hx h0 hN1 hf ha1 ha2
    go_enter Try.func29, Try.ntmps29
    go_wp2_with (first | (go_at_call 66; refine HS.out.mono ?_; rintro e w' ⟨rfl, rfl⟩) | (go_at_call 67; refine HP.out.mono ?_; rintro e w' ⟨rfl, rfl⟩))
    go_ret
    have hb := H.out.buf.set (i * 128 + j) (x ^^^ m) HY.out
    rw [flatF_set H.out.f128 HSs.out hj] at hb
    have hturn : ∀ t, st.s[i]? = some t → (⟨t.f.set j (x ^^^ m), t.l⟩ : Dk.Sec) = ⟨Dk.turn t.f j m, t.l⟩ := by
      intro t ht
      rw [HSs.out] at ht
      injection ht with ht
      subst ht
      rw [turn_set HXx.out]
    have hupd : Dk.upd st.s i (fun s => ⟨s.f.set j (x ^^^ m), s.l⟩) = Dk.upd st.s i (fun s => ⟨Dk.turn s.f j m, s.l⟩) := by
      unfold Dk.upd
      apply List.ext_getElem?
      intro k
      rw [List.getElem?_modify, List.getElem?_modify]
      by_cases e : i = k
      · subst e
        rw [HSs.out]
        simp [hturn s HSs.out]
      · simp [e]
    rw [hupd] at hb
    have hX := H.out.rebuf hb (Ch1.set _ _ _ _) (upd_len _ _ _) (fun k => map_l_upd _ _ _ _ (fun _ => rfl)) (by
      intro t ht
      obtain ⟨k, hk⟩ := List.getElem?_of_mem ht
      by_cases e : k = i
      · subst e
        rw [upd_at HSs.out] at hk
        injection hk with hk
        subst hk
        obtain ⟨a1, a2, _⟩ := H.out.fine.1 s (List.mem_of_getElem? HSs.out)
        rw [turn_set HXx.out]
        refine ⟨by simp [a1], fun y hy => ?_⟩
        rcases List.mem_or_eq_of_mem_set hy with h1 | h1
        · exact a2 y h1
        · rw [h1]; exact HY.out
      · rw [upd_other e] at hk
        obtain ⟨a1, a2, _⟩ := H.out.fine.1 t (List.mem_of_getElem? hk)
        exact ⟨a1, a2⟩)
    exact ⟨rfl, lab, ⟨fb, mb, M, E, hX.1⟩, hX.2, Lab.refl _ _⟩
  · have e1 : st.rotE at_ place = 5 := by unfold Dk.St.rotE; rw [if_neg hg]
    have e2 : st.rot at_ place m = st := by unfold Dk.St.rot; rw [e1]; rfl
    rw [e1, e2]
    have hh : st.has at_ = (decide (0 ≤ at_) && decide (at_ < (st.s.length : Int))) := rfl
    rw [hh, Bool.and_eq_true, decide_eq_true_eq, decide_eq_true_eq] at hg
    have key : at_ < 0 ∨ (¬ at_ < 0 ∧ (st.s.length : Int) ≤ at_) ∨ (¬ at_ < 0 ∧ ¬ (st.s.length : Int) ≤ at_ ∧ place < 0) ∨ (¬ at_ < 0 ∧ ¬ (st.s.length : Int) ≤ at_ ∧ ¬ place < 0 ∧ 128 ≤ place) := by omega
    clear hg hh e1 e2 h hN1
    rcases key with k1 | ⟨k1, k2⟩ | ⟨k1, k2, k3⟩ | ⟨k1, k2, k3, k4⟩
    all_goals
      go_enter Try.func29, Try.ntmps29
      go_wp2_with (go_at_call 66; refine HS.out.mono ?_; rintro e w' ⟨rfl, rfl⟩)
      go_ret
      exact ⟨rfl, lab, ⟨fb, mb, M, E, H.out⟩, Chg.refl _ _, Lab.refl _ _⟩
end Go.Proofs.Ytbdomhookjmmgaa
