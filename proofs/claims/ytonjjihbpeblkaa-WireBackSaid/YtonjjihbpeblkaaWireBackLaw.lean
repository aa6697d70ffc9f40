/- Whatever request, reply or message is written is read again as what it was. -/
import Derived.Test.YtonjjihbpeblkaaWrLaw
import Derived.Test.YtonjjihbpeblkaaIns
import Derived.Test.YtonjjihbpeblkaaHolds
import Derived.WalkKit
import Derived.ProofKit
import Derived.OpenShut
import Derived.ShutString
import Derived.ChangeOld
import Derived.Below
import Derived.Deep.RegionHeld
namespace Go.Proofs.Ytonjjihbpeblkaa.wireBack
open Go.ChangeShapes Go.WideShapes Go.ChangeAt Go.RowKit
set_option linter.unusedVariables false
theorem own : ownKnob Try.prog.godebug = none := by kernel_rfl
theorem laidOut : laidOutB Try.prog = true := by kernel_rfl
set_option maxRecDepth 100000 in
theorem enter_short (args : Array Value) (w : World) : (callFunc 8 args).run Try.prog w = .ok (.enter 8 args) w := run_enter Try.func8 (by kernel_rfl) (by kernel_rfl) args w
/-- Where the walk is: the three structs lie so. -/
def St (w : World) (r : Wr.Rq) (p : Wr.Rp) (m : Wr.Mg) (wx : World) : Prop :=
  Below w.heap.size w wx ∧ Holds wx w.heap.size r.cells ∧ Holds wx (w.heap.size + 1) p.cells ∧ Holds wx (w.heap.size + 1 + 1) m.cells
theorem st_below {w : World} {r : Wr.Rq} {p : Wr.Rp} {m : Wr.Mg} {a b : World} (h : St w r p m a) (hb : Below a.heap.size a b) : St w r p m b := ⟨below_next h.1 hb, h.2.1.below hb, h.2.2.1.below hb, h.2.2.2.below hb⟩
theorem st_alloc {w : World} {r : Wr.Rq} {p : Wr.Rp} {m : Wr.Mg} {a : World} (h : St w r p m a) (o : Obj) : St w r p m (a.alloc o) := st_below h ((Below.refl _ _).alloc (Nat.le_refl _) o)
theorem st_start (w : World) (r : Wr.Rq) (p : Wr.Rp) (m : Wr.Mg) (t1 t2 t3 : TypeId) : St w r p m (((w.alloc (.cells r.cells.toArray t1)).alloc (.cells p.cells.toArray t2)).alloc (.cells m.cells.toArray t3)) := by
  have k0 := ((Holds.new w r.cells.toArray t1).alloc (.cells p.cells.toArray t2)).alloc (.cells m.cells.toArray t3)
  have k1 := (Holds.new (w.alloc (.cells r.cells.toArray t1)) p.cells.toArray t2).alloc (.cells m.cells.toArray t3)
  have k2 := Holds.new ((w.alloc (.cells r.cells.toArray t1)).alloc (.cells p.cells.toArray t2)) m.cells.toArray t3
  rw [show (w.alloc (.cells r.cells.toArray t1)).heap.size = w.heap.size + 1 by simp] at k1
  rw [show ((w.alloc (.cells r.cells.toArray t1)).alloc (.cells p.cells.toArray t2)).heap.size = w.heap.size + 1 + 1 by simp] at k2
  exact ⟨((((Below.refl _ _).alloc (Nat.le_refl _) _).alloc (by simp) _).alloc (by simp; omega) _), by simpa using k0, by simpa using k1, by simpa using k2⟩
theorem st_set0 {w : World} {r : Wr.Rq} {p : Wr.Rp} {m : Wr.Mg} {a : World} (s : ByteArray) (h : St w r p m a) : St w { r with s := s } p m (a.setCell ⟨w.heap.size, 1, none⟩ (.string s)) :=
  ⟨below_set h.1 _ _ (Nat.le_refl _), h.2.1.set 1 (.string s) (by simp [Wr.Rq.cells]), h.2.2.1.other (by omega), h.2.2.2.other (by omega)⟩
theorem st_set2 {w : World} {r : Wr.Rq} {p : Wr.Rp} {m : Wr.Mg} {a : World} (s : ByteArray) (h : St w r p m a) : St w r p { m with s := s } (a.setCell ⟨w.heap.size + 1 + 1, 3, none⟩ (.string s)) :=
  ⟨below_set h.1 _ _ (by show w.heap.size ≤ w.heap.size + 1 + 1; omega), h.2.1.other (by omega), h.2.2.1.other (by omega), h.2.2.2.set 3 (.string s) (by simp [Wr.Mg.cells])⟩
theorem ask_len {r : Wr.Rq} {l : List Nat} (h : Wr.askBytes r = some l) : l.length ≤ 1000000 := by
  unfold Wr.askBytes at h
  split at h
  · cases h
  · rcases he : Wr.encs (Wr.askVals r) with _ | rb
    · rw [he] at h; cases h
    · rw [he] at h
      injection h with h
      subst h
      have h1 := Wr.encs_length he
      have h2 := Cd.num_length r.k.toNat
      have h3 := (Wr.asks_ok r.k).2
      unfold Wr.apart at h3
      rw [Bool.and_eq_true, decide_eq_true_eq, decide_eq_true_eq] at h3
      have h4 : (Wr.askVals r).length = (Wr.asks r.k).length := by unfold Wr.askVals; rw [List.length_map]
      rw [List.length_append]
      omega
theorem msg_len {r : Wr.Mg} {l : List Nat} (h : Wr.msgBytes r = some l) : l.length ≤ 1000000 := by
  unfold Wr.msgBytes at h
  split at h
  · cases h
  · rcases he : Wr.encs (Wr.msgVals r) with _ | rb
    · rw [he] at h; cases h
    · rw [he] at h
      injection h with h
      subst h
      have h1 := Wr.encs_length he
      have h2 := Cd.num_length r.k.toNat
      have h3 := (Wr.msgs_ok r.k).2
      unfold Wr.apart at h3
      rw [Bool.and_eq_true, decide_eq_true_eq, decide_eq_true_eq] at h3
      have h4 : (Wr.msgVals r).length = (Wr.msgs r.k).length := by unfold Wr.msgVals; rw [List.length_map]
      rw [List.length_append]
      omega
theorem rep_len {r : Wr.Rp} {l : List Nat} (h : Wr.repBytes r = some l) : l.length ≤ 1000000 := by
  unfold Wr.repBytes at h
  split at h
  · cases h
  · have h1 := Wr.encs_length h
    have h2 : r.cells.length = 5 := rfl
    omega
theorem ask_there {r : Wr.Rq} (hr : r.small) (wx : World) {e : Ending} {w' : World} (h : GivesBs wx (Wr.askBytes r) e w') : ∃ (A : Option Addr) (m c : Nat) (E : Int), e = .returned (.tuple #[.slice A m c, .int .i64 E]) ∧ Below wx.heap.size wx w' ∧ (E = 220 ∨ E = 0 ∧ ∀ wy, Below w'.heap.size w' wy → Calls Try.prog 12 #[.slice A m c] wy fun e w2 => e = .returned (.tuple #[.agg r.cells.toArray, .int .i64 0]) ∧ Below wy.heap.size wy w2) := by
  obtain ⟨A, c, l, E, rfl, ho, hb, hE⟩ := bs_uni h
  refine ⟨A, _, c, E, rfl, hb, ?_⟩
  rcases hE with ⟨rfl, _, _⟩ | ⟨rfl, hs⟩
  · exact .inl rfl
  · refine .inr ⟨rfl, fun wy hy => ?_⟩
    have h := wread_any A l.length c l wy (ho.rd.below hy) ho.cap (ask_len hs)
    rw [Wr.ask_back hr hs] at h
    exact h
theorem rep_there {r : Wr.Rp} (hr : r.small) (wx : World) {e : Ending} {w' : World} (h : GivesBs wx (Wr.repBytes r) e w') : ∃ (A : Option Addr) (m c : Nat) (E : Int), e = .returned (.tuple #[.slice A m c, .int .i64 E]) ∧ Below wx.heap.size wx w' ∧ (E = 220 ∨ E = 0 ∧ ∀ wy, Below w'.heap.size w' wy → Calls Try.prog 17 #[.slice A m c] wy fun e w2 => e = .returned (.tuple #[.agg r.cells.toArray, .int .i64 0]) ∧ Below wy.heap.size wy w2) := by
  obtain ⟨A, c, l, E, rfl, ho, hb, hE⟩ := bs_uni h
  refine ⟨A, _, c, E, rfl, hb, ?_⟩
  rcases hE with ⟨rfl, _, _⟩ | ⟨rfl, hs⟩
  · exact .inl rfl
  · refine .inr ⟨rfl, fun wy hy => ?_⟩
    have h := wreadreply_any A l.length c l wy (ho.rd.below hy) ho.cap (rep_len hs)
    rw [Wr.rep_back hr hs] at h
    exact h
theorem msg_there {r : Wr.Mg} (hr : r.small) (wx : World) {e : Ending} {w' : World} (h : GivesBs wx (Wr.msgBytes r) e w') : ∃ (A : Option Addr) (m c : Nat) (E : Int), e = .returned (.tuple #[.slice A m c, .int .i64 E]) ∧ Below wx.heap.size wx w' ∧ (E = 220 ∧ m = 0 ∨ E = 0 ∧ ∀ wy, Below w'.heap.size w' wy → Calls Try.prog 21 #[.slice A m c] wy fun e w2 => e = .returned (.tuple #[.agg r.cells.toArray, .int .i64 0]) ∧ Below wy.heap.size wy w2) := by
  obtain ⟨A, c, l, E, rfl, ho, hb, hE⟩ := bs_uni h
  refine ⟨A, _, c, E, rfl, hb, ?_⟩
  rcases hE with ⟨rfl, rfl, _⟩ | ⟨rfl, hs⟩
  · exact .inl ⟨rfl, rfl⟩
  · refine .inr ⟨rfl, fun wy hy => ?_⟩
    have h := wreadmsg_any A l.length c l wy (ho.rd.below hy) ho.cap (msg_len hs)
    rw [Wr.msg_back hr hs] at h
    exact h
set_option maxRecDepth 100000 in
set_option maxHeartbeats 16000000 in
theorem walk (R0 : Wr.Rq) (R1 : Wr.Rp) (R2 : Wr.Mg) (w : World) (wr0 : R0.small) (w0 : R0.s.size ≤ 9223372036854775807) (wr1 : R1.small) (wr2 : R2.small) (w2 : R2.s.size ≤ 9223372036854775807) :
    Calls Try.prog 6 #[.agg R0.cells.toArray, .agg R1.cells.toArray, .agg R2.cells.toArray] w fun e w' => e = .returned (.bool true) ∧ Below w.heap.size w w' := by
  -- heartbeats 16000000
  obtain ⟨k, s0, d, n, u, p, q⟩ := R0
  obtain ⟨x, n1, q1, f1, h1⟩ := R1
  obtain ⟨k2, p2, q2, t0, n2⟩ := R2
  have hsh := fun (wx : World) => short_any s0 w0 wx
  have hsh2 := fun (wx : World) => short_any t0 w2 wx
  have hst : St w ⟨k, s0, d, n, u, p, q⟩ ⟨x, n1, q1, f1, h1⟩ ⟨k2, p2, q2, t0, n2⟩ (((w.alloc (.cells #[.int .i64 k, .string s0, .int .i64 d, .int .i64 n, .int .i64 u, .int .i64 p, .int .i64 q] 24)).alloc (.cells #[.int .i64 x, .int .i64 n1, .int .i64 q1, .int .i64 f1, .int .i64 h1] 36)).alloc (.cells #[.int .i64 k2, .int .i64 p2, .int .i64 q2, .string t0, .int .i64 n2] 43)) := st_start w ⟨k, s0, d, n, u, p, q⟩ ⟨x, n1, q1, f1, h1⟩ ⟨k2, p2, q2, t0, n2⟩ 24 36 43
  have HSh := Lib.hid hsh
  have HSh2 := Lib.hid hsh2
  have HSt := Lib.hid hst
  have HRs := Lib.hid wr0
  have HPs := Lib.hid wr1
  have HMs := Lib.hid wr2
  clear hsh hsh2 hst wr0 wr1 wr2
  show Calls _ _ #[.agg #[.int .i64 k, .string s0, .int .i64 d, .int .i64 n, .int .i64 u, .int .i64 p, .int .i64 q], .agg #[.int .i64 x, .int .i64 n1, .int .i64 q1, .int .i64 f1, .int .i64 h1], .agg #[.int .i64 k2, .int .i64 p2, .int .i64 q2, .string t0, .int .i64 n2]] _ _
  go_enter Try.func6, Try.ntmps6
  go_wp2_with fail
  generalize ((w.alloc (.cells #[.int .i64 k, .string s0, .int .i64 d, .int .i64 n, .int .i64 u, .int .i64 p, .int .i64 q] 24)).alloc (.cells #[.int .i64 x, .int .i64 n1, .int .i64 q1, .int .i64 f1, .int .i64 h1] 36)).alloc (.cells #[.int .i64 k2, .int .i64 p2, .int .i64 q2, .string t0, .int .i64 n2] 43) = W at *
  go_cut [6] from 19 to 26 (fun s6 wx => St w ⟨k, cutS s0, d, n, u, p, q⟩ ⟨x, n1, q1, f1, h1⟩ ⟨k2, p2, q2, cutS t0, n2⟩ wx)
  case first =>
    have a1 : W.drew.cell? ⟨w.heap.size, 1, none⟩ = some (.string s0) := HSt.out.2.1.at_ 1 rfl
    have a2 : W.drew.frozen? ⟨w.heap.size, 1, none⟩ = false := HSt.out.2.1.2.2 1
    have a3 : W.drew.cell? ⟨w.heap.size + 1 + 1, 3, none⟩ = some (.string t0) := HSt.out.2.2.2.at_ 3 rfl
    have a4 : W.drew.frozen? ⟨w.heap.size + 1 + 1, 3, none⟩ = false := HSt.out.2.2.2.2.2 3
    have e1 : W.cell? ⟨w.heap.size, 1, none⟩ = some (.string s0) := HSt.out.2.1.at_ 1 rfl
    have e2 : W.frozen? ⟨w.heap.size, 1, none⟩ = false := HSt.out.2.1.2.2 1
    have e3 : W.cell? ⟨w.heap.size + 1 + 1, 3, none⟩ = some (.string t0) := HSt.out.2.2.2.at_ 3 rfl
    have e4 : W.frozen? ⟨w.heap.size + 1 + 1, 3, none⟩ = false := HSt.out.2.2.2.2.2 3
    have hE1 := st_set2 (cutS t0) (st_set0 (cutS s0) HSt.out)
    have hE2 := st_set0 (cutS s0) (st_set2 (cutS t0) HSt.out)
    have HE1 := Lib.hid (st_below hE1 (Below.refl _ _).drew)
    have HE2 := Lib.hid (st_below hE2 (Below.refl _ _).drew)
    clear hE1 hE2
    go_region_law (first | (refine step_call1 (by rfl) 21 rfl (.tmp 20) rfl rfl enter_short ((HSh.out _).mono ?_); rintro e v4 ⟨rfl, rfl⟩; refine ⟨_, rfl, ?_⟩) | (refine step_call1 (by rfl) 24 rfl (.tmp 23) rfl rfl enter_short ((HSh2.out _).mono ?_); rintro e v4 ⟨rfl, rfl⟩; refine ⟨_, rfl, ?_⟩))
    all_goals go_wp2_with fail
    all_goals go_meet
    all_goals first | exact HE1.out | exact HE2.out
  case rest =>
    have HS := Lib.hid hcut
    clear hcut HSt HSh HSh2

    generalize cutS s0 = s at *
    generalize cutS t0 = t at *
    go_wp2_with fail
    refine (awake_any _).mono ?_
    rintro e v1 ⟨rfl, hb⟩
    replace HS := Lib.hid (st_below HS.out hb)
    clear hb
    have D1 := Lib.hid (fun (wx : World) => wbytes_any ⟨k, s, d, n, u, p, q⟩ HRs.out wx)
    have D2 := Lib.hid (fun (wx : World) => wrepbytes_any ⟨x, n1, q1, f1, h1⟩ HPs.out wx)
    have D3 := Lib.hid (fun (wx : World) => wmsgbytes_any ⟨k2, p2, q2, t, n2⟩ HMs.out wx)
    have c10 := HS.out.2.1.at_ 0 rfl
    have c11 := HS.out.2.1.at_ 1 rfl
    have c12 := HS.out.2.1.at_ 2 rfl
    have c13 := HS.out.2.1.at_ 3 rfl
    have c14 := HS.out.2.1.at_ 4 rfl
    have c15 := HS.out.2.1.at_ 5 rfl
    have c16 := HS.out.2.1.at_ 6 rfl
    go_wp2_with fail
    refine (D1.out _).mono ?_
    intro e v12 h
    obtain ⟨A1, m1, z1, E1, rfl, hb, hE⟩ := ask_there (r := ⟨k, s, d, n, u, p, q⟩) HRs.out _ h
    replace HS := Lib.hid (st_below HS.out hb)
    have HE := Lib.hid hE
    clear c10 c11 c12 c13 c14 c15 c16 h hb hE
    go_upto_if 35 with fail
    go_cut [9, 10] from 36 to 47 (fun s9 s10 wx => St w ⟨k, s, d, n, u, p, q⟩ ⟨x, n1, q1, f1, h1⟩ ⟨k2, p2, q2, t, n2⟩ wx)
    case first =>
      rcases HE.out with rfl | ⟨rfl, hg⟩
      · go_wp2_with fail
        go_meet
        exact HS.out
      · have Hg := Lib.hid hg
        clear hg
        go_wp2_with fail
        refine (Hg.out _ (Below.refl _ _)).mono ?_
        intro e v13 h
        have h : e = .returned (.tuple #[.agg #[.int .i64 k, .string s, .int .i64 d, .int .i64 n, .int .i64 u, .int .i64 p, .int .i64 q], .int .i64 0]) ∧ Below v12.heap.size v12 v13 := h
        obtain ⟨rfl, hb⟩ := h
        have HS3 := Lib.hid (st_alloc (st_below HS.out hb) (.cells #[.int .i64 k, .string s, .int .i64 d, .int .i64 n, .int .i64 u, .int .i64 p, .int .i64 q] 24))
        clear hb
        have c0 := HS3.out.2.1.at_ 0 rfl
        have c1 := HS3.out.2.1.at_ 1 rfl
        have c2 := HS3.out.2.1.at_ 2 rfl
        have c3 := HS3.out.2.1.at_ 3 rfl
        have c4 := HS3.out.2.1.at_ 4 rfl
        have c5 := HS3.out.2.1.at_ 5 rfl
        have c6 := HS3.out.2.1.at_ 6 rfl
        go_wp2_with fail
        go_meet
        exact HS3.out
    case rest =>
      replace HS := Lib.hid hcut
      clear hcut HE
      have c20 := HS.out.2.2.1.at_ 0 rfl
      have c21 := HS.out.2.2.1.at_ 1 rfl
      have c22 := HS.out.2.2.1.at_ 2 rfl
      have c23 := HS.out.2.2.1.at_ 3 rfl
      have c24 := HS.out.2.2.1.at_ 4 rfl
      go_wp2_with fail
      refine (D2.out _).mono ?_
      intro e v22 h
      obtain ⟨A2, m2, z2, E2, rfl, hb, hE⟩ := rep_there (r := ⟨x, n1, q1, f1, h1⟩) HPs.out _ h
      replace HS := Lib.hid (st_below HS.out hb)
      have HE := Lib.hid hE
      clear c20 c21 c22 c23 c24 h hb hE
      go_upto_if 54 with fail
      go_cut [13, 14] from 55 to 66 (fun s13 s14 wx => St w ⟨k, s, d, n, u, p, q⟩ ⟨x, n1, q1, f1, h1⟩ ⟨k2, p2, q2, t, n2⟩ wx)
      case first =>
        rcases HE.out with rfl | ⟨rfl, hg⟩
        · go_wp2_with fail
          go_meet
          exact HS.out
        · have Hg := Lib.hid hg
          clear hg
          go_wp2_with fail
          refine (Hg.out _ (Below.refl _ _)).mono ?_
          intro e v23 h
          have h : e = .returned (.tuple #[.agg #[.int .i64 x, .int .i64 n1, .int .i64 q1, .int .i64 f1, .int .i64 h1], .int .i64 0]) ∧ Below v22.heap.size v22 v23 := h
          obtain ⟨rfl, hb⟩ := h
          have HS3 := Lib.hid (st_alloc (st_below HS.out hb) (.cells #[.int .i64 x, .int .i64 n1, .int .i64 q1, .int .i64 f1, .int .i64 h1] 36))
          clear hb
          have c0 := HS3.out.2.2.1.at_ 0 rfl
          have c1 := HS3.out.2.2.1.at_ 1 rfl
          have c2 := HS3.out.2.2.1.at_ 2 rfl
          have c3 := HS3.out.2.2.1.at_ 3 rfl
          have c4 := HS3.out.2.2.1.at_ 4 rfl
          go_wp2_with fail
          go_meet
          exact HS3.out
      case rest =>
        replace HS := Lib.hid hcut
        clear hcut HE
        have c30 := HS.out.2.2.2.at_ 0 rfl
        have c31 := HS.out.2.2.2.at_ 1 rfl
        have c32 := HS.out.2.2.2.at_ 2 rfl
        have c33 := HS.out.2.2.2.at_ 3 rfl
        have c34 := HS.out.2.2.2.at_ 4 rfl
        go_wp2_with fail
        refine (D3.out _).mono ?_
        intro e v32 h
        obtain ⟨A3, m3, z3, E3, rfl, hb, hE⟩ := msg_there (r := ⟨k2, p2, q2, t, n2⟩) HMs.out _ h
        replace HS := Lib.hid (st_below HS.out hb)
        clear c30 c31 c32 c33 c34 h hb
        rcases hE with ⟨rfl, rfl⟩ | ⟨rfl, hg⟩
        · have HB := Lib.hid HS.out.1
          go_wp2_with fail
          go_ret
          exact ⟨rfl, HB.out⟩
        · have Hg := Lib.hid hg
          clear hg
          go_wp2_with fail
          refine (Hg.out _ (Below.refl _ _)).mono ?_
          intro e v33 h
          have h : e = .returned (.tuple #[.agg #[.int .i64 k2, .int .i64 p2, .int .i64 q2, .string t, .int .i64 n2], .int .i64 0]) ∧ Below v32.heap.size v32 v33 := h
          obtain ⟨rfl, hb⟩ := h
          have HS3 := Lib.hid (st_alloc (st_below HS.out hb) (.cells #[.int .i64 k2, .int .i64 p2, .int .i64 q2, .string t, .int .i64 n2] 43))
          clear hb
          have c0 := HS3.out.2.2.2.at_ 0 rfl
          have c1 := HS3.out.2.2.2.at_ 1 rfl
          have c2 := HS3.out.2.2.2.at_ 2 rfl
          have c3 := HS3.out.2.2.2.at_ 3 rfl
          have c4 := HS3.out.2.2.2.at_ 4 rfl
          go_wp2_with fail
          go_ret
          exact ⟨rfl, HS3.out.1⟩
set_option maxRecDepth 100000 in
theorem lifted (os : Os) (started : os.Started) (H : Type) (enc : TypeId × Value → H) :
    ReturnsInHanded {} Try.checked os 6 .any (Rows.wireBackSpec.pre6 enc Try.prog Try.f6 Rows.wireBackRow.domain false) (Rows.wireBackSpec.post enc Try.prog Try.f6 false true false false) := by
  refine returnsInHanded_of_change (C := Try.checked) own started (by kernel_rfl) Try.func6
    (ChangeSpec.witness6 (enc := enc) (C := Try.checked) false ⟨#[], #[.agg #[.int .i64 0, .string ⟨#[]⟩, .int .i64 0, .int .i64 0, .int .i64 0, .int .i64 0, .int .i64 0], .agg #[.int .i64 0, .int .i64 0, .int .i64 0, .int .i64 0, .int .i64 0], .agg #[.int .i64 0, .int .i64 0, .int .i64 0, .string ⟨#[]⟩, .int .i64 0]], []⟩ 8 (by kernel_rfl) (by kernel_rfl) (by kernel_rfl) (by kernel_rfl)) ?_
  intro W base args ds gs before hval0 hW hcnd _
  have hval : ∀ (j : Nat) t v, Try.f6.params[j]? = some t → args[j]? = some v → Value.okWide Try.prog W .any base t v := hval0
  have hW' := hW
  obtain ⟨p, q, hA0, hV, rfl, hfz, hnd⟩ := hW
  have hA : DataW.TrodAll enc Try.prog W 0 (fun _ => true) true Try.f6.params.toList args.toList ds p := hA0
  rw [Try.params6] at hA hval
  obtain ⟨v0, vs0, d0, ds0, p0, q0, hargs, rfl, rfl, h0, t0⟩ := trodAll_cons hA
  obtain ⟨v1, vs1, d1, ds1, p1, q1, rfl, rfl, rfl, h1, t1⟩ := trodAll_cons t0
  obtain ⟨v2, vs2, d2, ds2, p2, q2, rfl, rfl, rfl, h2, t2⟩ := trodAll_cons t1
  obtain ⟨rfl, rfl, rfl⟩ := trodAll_nil t2
  obtain rfl : args = #[v0, v1, v2] := by cases args; simp_all
  obtain ⟨rfl, rfl⟩ := trodVars_none hV
  have k0 : Reads enc W 24 v0 d0 p0 := h0
  have lt0 : ∀ x ∈ p0, x.block < W.heap.size := by obtain ⟨m, hm⟩ := k0; exact DataW.trod_lt m _ _ _ hm
  obtain ⟨R0, rfl, wr0, w0⟩ := in_ask (hval 0 24 v0 rfl rfl) k0
  have k1 : Reads enc W 36 v1 d1 p1 := h1
  have lt1 : ∀ x ∈ p1, x.block < W.heap.size := by obtain ⟨m, hm⟩ := k1; exact DataW.trod_lt m _ _ _ hm
  obtain ⟨R1, rfl, wr1⟩ := in_rep (hval 1 36 v1 rfl rfl) k1
  have k2 : Reads enc W 43 v2 d2 p2 := h2
  have lt2 : ∀ x ∈ p2, x.block < W.heap.size := by obtain ⟨m, hm⟩ := k2; exact DataW.trod_lt m _ _ _ hm
  obtain ⟨R2, rfl, wr2, w2⟩ := in_msg (hval 2 43 v2 rfl rfl) k2
  clear hA0 hval0
  refine (walk R0 R1 R2 W wr0 w0 wr1 wr2 w2).mono fun e W' ⟨he, bel⟩ => ?_
  subst he
  exact ⟨_, rfl, _, _, _, [], _, [], hW', trodAll_mk1 (shut_bool Try.underlying4 _), (trodAll_cons_mk (Below.trod laidOut (by kernel_rfl) (of_decide_eq_true (by kernel_rfl)) k0 bel lt0) (trodAll_cons_mk (Below.trod laidOut (by kernel_rfl) (of_decide_eq_true (by kernel_rfl)) k1 bel lt1) (trodAll_cons_mk (Below.trod laidOut (by kernel_rfl) (of_decide_eq_true (by kernel_rfl)) k2 bel lt2) trodAll_mk0))), rfl, bel.frame _, fun h => by cases h⟩
theorem over : Rows.wireBackRow.holds Try.pinned (OpenSpec.ofChange Rows.wireBackSpec) :=
  OpenClaim.holds_of_wide 6 Try.f6 rfl rfl rfl rfl rfl rfl rfl ⟨rfl, rfl, rfl, rfl, rfl⟩ rfl rfl rfl rfl rfl (by kernel_rfl) Try.func6 (by kernel_rfl)
    (of_decide_eq_true (by kernel_rfl)) (by unfold Func.isWrapper; first | (rw [if_pos (by decide +kernel)]; kernel_rfl) | (rw [if_neg (by decide +kernel)]; exact ⟨rfl, rfl⟩))
    (fun os started H enc _ => lifted os started H enc)
theorem proved : Rows.WireBackSaid := over
end Go.Proofs.Ytonjjihbpeblkaa.wireBack
