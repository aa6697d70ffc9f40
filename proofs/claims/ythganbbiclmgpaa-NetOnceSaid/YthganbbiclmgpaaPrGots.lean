/- A peer's Again, Got and Sent; and whether two rows of messages are the same. -/
import Derived.Test.YthganbbiclmgpaaPrHear2
import Derived.BigQuiet
import Derived.Test.YthganbbiclmgpaaMlLike
namespace Go.Proofs.Ythganbbiclmgpaa
open Go.RowKit
/-- The three books fit. -/
structure Small (S O G : List Pr.Mg) : Prop where
  rS : Pr.Ris S
  rO : Pr.Ris O
  rG : Pr.Ris G
  qS : ∀ m ∈ S, Q64 m.q
  qO : ∀ m ∈ O, Q64 m.q
  qG : ∀ m ∈ G, Q64 m.q
  lS : S.length ≤ 1000
  lO : O.length ≤ 1000
  lG : G.length ≤ 1000
set_option maxRecDepth 100000 in
theorem got_any (g b1 b2 b3 : Nat) (who : Int) (S O G : List Pr.Mg) (w : World) (h : Peer w g b1 b2 b3 who S O G) (hw : 0 < who) (hs : Small S O G) :
    Calls Try.prog 30 #[.pointer (some ⟨g, 0, none⟩)] w (GivesAll w G) := by
  have Hm := Lib.hid (pmade_any g who _ _ _ w h.box hw)
  have c3 := h.box.at_ 3 rfl
  have HA := Lib.hid (all_any b3 G w h.got hs.rG hs.qG hs.lG)
  clear h hs
  go_enter Try.func30, Try.ntmps30
  go_wp2_with fail
  refine Hm.out.mono ?_
  rintro e w2 ⟨rfl, rfl⟩
  go_wp2_with fail
  refine HA.out.mono ?_
  intro e w2 hg
  obtain ⟨A, cap, rfl, h⟩ := hg
  have H := Lib.hid h
  clear h
  go_wp2
  go_ret
  exact ⟨A, cap, rfl, H.out⟩
set_option maxRecDepth 100000 in
theorem sent_any (g b1 b2 b3 : Nat) (who : Int) (S O G : List Pr.Mg) (w : World) (h : Peer w g b1 b2 b3 who S O G) (hw : 0 < who) (hs : Small S O G) :
    Calls Try.prog 31 #[.pointer (some ⟨g, 0, none⟩)] w (GivesAll w S) := by
  have Hm := Lib.hid (pmade_any g who _ _ _ w h.box hw)
  have c3 := h.box.at_ 1 rfl
  have HA := Lib.hid (all_any b1 S w h.sent hs.rS hs.qS hs.lS)
  clear h hs
  go_enter Try.func31, Try.ntmps31
  go_wp2_with fail
  refine Hm.out.mono ?_
  rintro e w2 ⟨rfl, rfl⟩
  go_wp2_with fail
  refine HA.out.mono ?_
  intro e w2 hg
  obtain ⟨A, cap, rfl, h⟩ := hg
  have H := Lib.hid h
  clear h
  go_wp2
  go_ret
  exact ⟨A, cap, rfl, H.out⟩
set_option maxRecDepth 100000 in
theorem again_any (g b1 b2 b3 : Nat) (who : Int) (S O G : List Pr.Mg) (w : World) (h : Peer w g b1 b2 b3 who S O G) (hw : 0 < who) (hs : Small S O G) :
    Calls Try.prog 28 #[.pointer (some ⟨g, 0, none⟩)] w (GivesAll w O) := by
  have Hm := Lib.hid (pmade_any g who _ _ _ w h.box hw)
  have c3 := h.box.at_ 2 rfl
  have HA := Lib.hid (all_any b2 O w h.open_ hs.rO hs.qO hs.lO)
  clear h hs
  go_enter Try.func28, Try.ntmps28
  go_wp2_with fail
  refine Hm.out.mono ?_
  rintro e w2 ⟨rfl, rfl⟩
  go_wp2_with fail
  refine HA.out.mono ?_
  intro e w2 hg
  obtain ⟨A, cap, rfl, h⟩ := hg
  have H := Lib.hid h
  clear h
  go_wp2
  go_ret
  exact ⟨A, cap, rfl, H.out⟩
set_option maxRecDepth 100000 in
theorem pne_self (k p q : Int) (s : ByteArray) (n : Int) (w : World) : (binOp .neq 59 (.agg #[.int .i64 k, .int .i64 p, .int .i64 q, .string s, .int .i64 n]) (.agg #[.int .i64 k, .int .i64 p, .int .i64 q, .string s, .int .i64 n])).run Try.prog w = .ok (.bool false) w := by
  simp [go_sem]
set_option maxRecDepth 100000 in
set_option maxHeartbeats 4000000 in
theorem sames_same (A B : Option Addr) (cap c n : Nat) (l : List Pr.Mg) (w : World) (h : RdP w A n l) (hr : RdP w B n l) (hl : n ≤ 1000) :
    Calls Try.prog 27 #[.slice A n cap, .slice B n c] w fun e w' => e = .returned (.bool true) ∧ Below w.heap.size w w' := by
  have HN := Lib.hid h
  have HR := Lib.hid hr
  have HL := Lib.hid h.1
  clear h hr
  go_enter Try.func27, Try.ntmps27
  go_upto_region 4 with fail
  go_loopw [5] (fun i wr => ∃ k : Nat, k ≤ n ∧ i = .int .i64 (k : Int) ∧ Hid (Below w.heap.size w wr)) (fun i _ => n - (intOf i).toNat)
  case atStart => exact ⟨0, by omega, rfl, Lib.hid (Below.refl _ _)⟩
  case round =>
    obtain ⟨k, hk, rfl, HB⟩ := hrel
    by_cases hkl : k < n
    · have hki : (k : Int) < (n : Int) := by omega
      obtain ⟨x, hx⟩ : ∃ x, l[k]? = some x := ⟨_, List.getElem?_eq_getElem (by rw [HL.out]; exact hkl)⟩
      obtain ⟨b, o, rfl, hbl, hcell⟩ := (HN.out.below HB.out).at_ hx
      obtain ⟨b', o', rfl, hbl', hcell'⟩ := (HR.out.below HB.out).at_ hx
      obtain ⟨mk, mp, mq, ms, mn⟩ := x
      have e0 : wr.cell? ⟨b, o + k * 5, none⟩ = some (.int .i64 mk) := hcell 0 _ rfl
      have e1 : wr.cell? ⟨b, o + k * 5 + 1, none⟩ = some (.int .i64 mp) := hcell 1 _ rfl
      have e2 : wr.cell? ⟨b, o + k * 5 + 2, none⟩ = some (.int .i64 mq) := hcell 2 _ rfl
      have e3 : wr.cell? ⟨b, o + k * 5 + 3, none⟩ = some (.string ms) := hcell 3 _ rfl
      have e4 : wr.cell? ⟨b, o + k * 5 + 4, none⟩ = some (.int .i64 mn) := hcell 4 _ rfl
      have f0 : wr.cell? ⟨b', o' + k * 5, none⟩ = some (.int .i64 mk) := hcell' 0 _ rfl
      have f1 : wr.cell? ⟨b', o' + k * 5 + 1, none⟩ = some (.int .i64 mp) := hcell' 1 _ rfl
      have f2 : wr.cell? ⟨b', o' + k * 5 + 2, none⟩ = some (.int .i64 mq) := hcell' 2 _ rfl
      have f3 : wr.cell? ⟨b', o' + k * 5 + 3, none⟩ = some (.string ms) := hcell' 3 _ rfl
      have f4 : wr.cell? ⟨b', o' + k * 5 + 4, none⟩ = some (.int .i64 mn) := hcell' 4 _ rfl
      have hne := pne_self mk mp mq ms mn
      clear hcell hbl hcell' hbl' hx
      go_wp2_with fail
      go_quiet (fail)
      rename_i nq
      have B3 := Lib.hid (below_next HB.out (below_drewN _ wr nq))
      go_wp2_with fail
      go_roundw
      case rel => exact ⟨k + 1, by omega, by go_num, B3⟩
      case measure => simp [intOf]; omega
    · obtain rfl : k = n := by omega
      clear hk hkl
      go_wp2
      go_ret
      exact ⟨rfl, HB.out⟩
end Go.Proofs.Ythganbbiclmgpaa
