/- For any number of sectors and any calls, one behind the other, errors too: a map is as the document says. -/
import Derived.Test.YtaaodhnenaoheaaSpRClaim
import Derived.Test.YtaaodhnenaoheaaSpClaim
import Derived.Test.YtaaodhnenaoheaaSpTook
import Derived.Test.YtaaodhnenaoheaaSpPerm
import Derived.Test.YtaaodhnenaoheaaInSteps
import Derived.WalkKit
import Derived.ProofKit
import Derived.OpenShut
import Derived.ShutString
import Derived.ChangeOld
import Derived.Below
import Derived.Deep.RegionHeld
namespace Go.Proofs.Ytaaodhnenaoheaa.spaceRuns
open Go.ChangeShapes Go.WideShapes Go.ChangeAt Go.RowKit
set_option linter.unusedVariables false
theorem own : ownKnob Try.prog.godebug = none := by kernel_rfl
theorem laidOut : laidOutB Try.prog = true := by kernel_rfl
theorem rdv_ch {w w' : World} {A : Option Addr} {n b : Nat} {vs : List Value} (h : RdV w A n vs) (hc : Ch b w w') (hne : 0 < n → ∀ g o, A = some ⟨g, o, none⟩ → g ≠ b) : RdV w' A n vs := by
  refine ⟨h.1, fun hn => ?_⟩
  obtain ⟨g, o, rfl, hg, hcl⟩ := h.2 hn
  exact ⟨g, o, rfl, Nat.lt_of_lt_of_le hg hc.size, fun j x hx => (hc.cell (p := ⟨g, o + j, none⟩) hg (hne hn g o rfl)).trans (hcl j x hx)⟩
/-- How things stand: the program's map at block b, the document's in the variable at block z. -/
structure Stand (w0 : Nat) (z b : Nat) (T : List Bool) (A : Option Addr) (n c : Nat) (w : World) : Prop where
  map : Sp.MapAt w b T
  doc : RdT w A n T
  var : Holds w z [.slice A n c]
  bz : b ≠ z
  low : w0 ≤ b
  apart : 0 < n → ∀ g o, A = some ⟨g, o, none⟩ → g ≠ b ∧ g ≠ z ∧ g < w.heap.size
section
variable {w0 z b n c : Nat} {T : List Bool} {A : Option Addr} {w w' : World}
theorem Stand.below (h : Stand w0 z b T A n c w) (hb : Below w.heap.size w w') : Stand w0 z b T A n c w' :=
  ⟨h.map.below hb, h.doc.below hb, h.var.below hb, h.bz, h.low, fun h0 g o e => ⟨(h.apart h0 g o e).1, (h.apart h0 g o e).2.1, Nat.lt_of_lt_of_le (h.apart h0 g o e).2.2 hb.size⟩⟩
/-- The program's map has become another. -/
theorem Stand.turn (h : Stand w0 z b T A n c w) {T' : List Bool} (hc : Ch b w w') (hm : Sp.MapAt w' b T') : Sp.MapAt w' b T' ∧ RdT w' A n T ∧ Holds w' z [.slice A n c] ∧ (0 < n → ∀ g o, A = some ⟨g, o, none⟩ → g ≠ b ∧ g ≠ z ∧ g < w'.heap.size) :=
  ⟨hm, rdv_ch h.doc hc (fun h0 g o e => (h.apart h0 g o e).1), h.var.ch hc (fun e => h.bz e.symm), fun h0 g o e => ⟨(h.apart h0 g o e).1, (h.apart h0 g o e).2.1, Nat.lt_of_lt_of_le (h.apart h0 g o e).2.2 hc.size⟩⟩
/-- The document's map has become another, and is stored in its variable. -/
theorem Stand.store {B : Option Addr} {n' c' : Nat} {T' : List Bool} {v u : World} (hbz : b ≠ z) (hlow : w0 ≤ b) (hap : 0 < n → ∀ g o, A = some ⟨g, o, none⟩ → g ≠ b ∧ g ≠ z ∧ g < v.heap.size) (hnn : n' = n) (hz : z < v.heap.size) (hbv : b < v.heap.size)
    (hm : Sp.MapAt u b T') (hd : RdT u B n' T') (hv : Holds u z [.slice A n c]) (hor : B = A ∨ ∀ a, B = some a → v.heap.size ≤ a.block) (hle : v.heap.size ≤ u.heap.size) : Stand w0 z b T' B n' c' (u.setCell ⟨z, 0, none⟩ (.slice B n' c')) := by
  have hap2 : 0 < n' → ∀ g o, B = some ⟨g, o, none⟩ → g ≠ b ∧ g ≠ z ∧ g < u.heap.size := by
    intro h0 g o e
    rcases hor with e2 | e2
    · have := hap (by omega) g o (by rw [← e2, e]); exact ⟨this.1, this.2.1, by omega⟩
    · have h1 := e2 _ e
      obtain ⟨b1, o1, he, hb1, _⟩ := hd.2 h0
      rw [e] at he
      injection he with he
      injection he with e3 _
      simp at h1
      exact ⟨by omega, by omega, by omega⟩
  refine ⟨?_, ?_, hv.set 0 _ (by simp), hbz, hlow, fun h0 g o e => ⟨(hap2 h0 g o e).1, (hap2 h0 g o e).2.1, by simpa [World.setCell] using (hap2 h0 g o e).2.2⟩⟩
  · exact hm.ch (Ch.set z 0 u _) hbz
  · exact rdv_ch hd (Ch.set z 0 u _) (fun h0 g o e => (hap2 h0 g o e).2.1)
end
theorem fin_len (T : List Bool) (f : Bool) (bad : Int) (ps : List Int) : (Sp.fin T (Sp.turnAll f bad T ps)).1.length = T.length := by
  unfold Sp.fin
  split
  · exact Sp.turnAll_len _ _ _ _
  · rfl
theorem both_claim (b : Nat) (T : List Bool) (B : Option Addr) (cc : Nat) (qs : List (Int × Int)) (hT : T.length ≤ 511) (hq : qs.length ≤ 300) : ∃ (T' : List Bool) (x : Int), T'.length = T.length ∧
    (∀ v, Sp.MapAt v b T → RdC 2 v B qs.length (iv (flat qs)) → Calls Try.prog 17 #[.pointer (some ⟨b, 0, none⟩), .slice B qs.length cc] v fun e w' => e = .returned (.int .i64 x) ∧ Ch b v w' ∧ Sp.MapAt w' b T') ∧
    (∀ (A : Option Addr) (n c : Nat) v, RdT v A n T → RdC 2 v B qs.length (iv (flat qs)) → Calls Try.prog 18 #[.agg #[.slice A n c], .slice B qs.length cc] v fun e w' => ∃ (D : Option Addr) (m d : Nat), e = .returned (.tuple #[.agg #[.slice D m d], .int .i64 x]) ∧ RdT w' D m T' ∧ (D = A ∨ ∀ a, D = some a → v.heap.size ≤ a.block) ∧ Below v.heap.size v w') :=
  ⟨(Sp.fin T (Sp.turnAll false 61 T (flat qs))).1, (Sp.turnAll false 61 T (flat qs)).2, fin_len _ _ _ _, fun v h1 h2 => claims_any b T B qs.length cc qs v h1 h2 rfl (by omega), fun A n c v h1 h2 => rclaim_any A n c T B qs.length cc qs v h1 (by rw [← h1.len]; exact hT) h2 rfl (by omega)⟩
theorem both_give (b : Nat) (T : List Bool) (B : Option Addr) (cc : Nat) (qs : List (Int × Int)) (hT : T.length ≤ 511) (hq : qs.length ≤ 300) : ∃ (T' : List Bool) (x : Int), T'.length = T.length ∧
    (∀ v, Sp.MapAt v b T → RdC 2 v B qs.length (iv (flat qs)) → Calls Try.prog 19 #[.pointer (some ⟨b, 0, none⟩), .slice B qs.length cc] v fun e w' => e = .returned (.int .i64 x) ∧ Ch b v w' ∧ Sp.MapAt w' b T') ∧
    (∀ (A : Option Addr) (n c : Nat) v, RdT v A n T → RdC 2 v B qs.length (iv (flat qs)) → Calls Try.prog 20 #[.agg #[.slice A n c], .slice B qs.length cc] v fun e w' => ∃ (D : Option Addr) (m d : Nat), e = .returned (.tuple #[.agg #[.slice D m d], .int .i64 x]) ∧ RdT w' D m T' ∧ (D = A ∨ ∀ a, D = some a → v.heap.size ≤ a.block) ∧ Below v.heap.size v w') :=
  ⟨(Sp.fin T (Sp.turnAll true 62 T (flat qs))).1, (Sp.turnAll true 62 T (flat qs)).2, fin_len _ _ _ _, fun v h1 h2 => gives_any b T B qs.length cc qs v h1 h2 rfl (by omega), fun A n c v h1 h2 => rgive_any A n c T B qs.length cc qs v h1 (by rw [← h1.len]; exact hT) h2 rfl (by omega)⟩
theorem both_take (b : Nat) (T : List Bool) (nn : Int) (hT : T.length ≤ 511) : ∃ (T' : List Bool) (l : List Int) (q : Nat) (x : Int), T'.length = T.length ∧ q ≤ 64 ∧
    (∀ v, Sp.MapAt v b T → Calls Try.prog 21 #[.pointer (some ⟨b, 0, none⟩), .int .i64 nn] v fun e w' => ∃ (A : Option Addr) (c : Nat), e = .returned (.tuple #[.slice A q c, .int .i64 x]) ∧ OwnC 2 w' v.heap.size 56 A q c (iv l) ∧ Ch b v w' ∧ Sp.MapAt w' b T') ∧
    (∀ (A : Option Addr) (n c : Nat) v, RdT v A n T → Calls Try.prog 22 #[.agg #[.slice A n c], .int .i64 nn] v fun e w' => ∃ (B : Option Addr) (m d : Nat) (C : Option Addr) (d2 : Nat), e = .returned (.tuple #[.agg #[.slice B m d], .slice C q d2, .int .i64 x]) ∧ RdT w' B m T' ∧ (B = A ∨ ∀ a, B = some a → v.heap.size ≤ a.block) ∧ RdC 2 w' C q (iv l) ∧ (0 < q → ∀ g o, C = some ⟨g, o, none⟩ → v.heap.size ≤ g) ∧ Below v.heap.size v w') :=
  ⟨(Sp.took T nn).1, (Sp.took T nn).2.1, (Sp.took T nn).2.2.1, (Sp.took T nn).2.2.2, Sp.took_len _ _, by rcases Sp.took_cases T nn with ⟨_, h⟩ | ⟨k, _, hk, _, h⟩ | ⟨k, _, hk, _, h⟩ <;> rw [h] <;> simp <;> omega,
    fun v h1 => take_any b T nn v h1, fun A n c v h1 => rtake_any A n c T nn v h1 (by rw [← h1.len]; exact hT)⟩
theorem rdc_ch {s : Nat} {w w' : World} {A : Option Addr} {n b : Nat} {vs : List Value} (h : RdC s w A n vs) (hc : Ch b w w') (hne : 0 < n → ∀ g o, A = some ⟨g, o, none⟩ → g ≠ b) : RdC s w' A n vs := by
  refine ⟨h.1, fun hn => ?_⟩
  obtain ⟨g, o, rfl, hg, hcl⟩ := h.2 hn
  exact ⟨g, o, rfl, Nat.lt_of_lt_of_le hg hc.size, fun j x hx => (hc.cell (p := ⟨g, o + j, none⟩) hg (hne hn g o rfl)).trans (hcl j x hx)⟩
set_option maxRecDepth 100000 in
set_option maxHeartbeats 16000000 in
theorem walk (n0 : Nat) (A1 : Option Addr) (m1 c1 : Nat) (l1 : List St) (w : World) (w0 : n0 < 65536) (r1 : RdSt w A1 m1 l1) (wc1 : m1 ≤ c1) (w1 : m1 ≤ 9223372036854775807) :
    Calls Try.prog 4 #[.int .u16 (n0 : Int), .slice A1 m1 c1] w fun e w' => e = .returned (.bool true) ∧ Below w.heap.size w w' := by
-- heartbeats 16000000
  have hn : ∃ s : Nat, s = n0 % 700 ∧ s < 700 := ⟨_, rfl, Nat.mod_lt _ (by omega)⟩
  obtain ⟨s, hs, hs2⟩ := hn
  have hmod : (n0 : Int) % 700 = (s : Int) := by omega
  have hnew := fun W => new_map (s : Int) W (by omega) (by omega)
  have hrnew := fun W => rnew_yes (s : Int) W (by omega) (by omega)
  generalize Sp.plots (s : Int) = p0 at *
  have HN := Lib.hid hnew
  have HRN := Lib.hid hrnew
  have HA := Lib.hid (fun W => awake_any W)
  have HSt := Lib.hid r1
  clear hnew hrnew r1 hs
  go_enter Try.func4, Try.ntmps4
  go_wp2_with fail
  refine (HN.out _).mono ?_
  rintro e v1 ⟨rfl, hb1, hM1⟩
  go_wp2_with fail
  refine (HRN.out _).mono ?_
  rintro e vz ⟨rfl, hb2, hO2⟩
  have hw2 := below_next hb1 hb2
  have hS : Stand w.heap.size vz.heap.size w.heap.size (List.replicate p0 false) (some ⟨v1.heap.size + 1, 0, none⟩) p0 p0 (vz.alloc (.cells #[.slice (some ⟨v1.heap.size + 1, 0, none⟩) p0 p0] 31)) := by
    have h1 := hM1.lt
    have h2 := hb2.size
    have h3 := (hO2.blk _ rfl).2
    simp at h3
    exact ⟨(hM1.below hb2).below ((Below.refl _ _).alloc (Nat.le_refl _) _), hO2.rd.alloc _, Holds.new vz _ _, by omega, Nat.le_refl _, fun _ g o e => by injection e with e; injection e with e1 _; subst e1; exact ⟨by omega, by omega, by simp; omega⟩⟩
  have hw3 := hw2.alloc hw2.size (.cells #[.slice (some ⟨v1.heap.size + 1, 0, none⟩) p0 p0] 31)
  have hz0 : w.heap.size ≤ vz.heap.size := hw2.size
  have HS := Lib.hid hS
  clear hb1 hM1 hb2 hO2 hw2 hS
  go_wp2_with fail
  refine (HA.out _).mono ?_
  rintro e v3 ⟨rfl, hb3⟩
  have hS := HS.out.below hb3
  have hw4 := below_next hw3 hb3
  clear HS hb3 hw3
  go_wp2_with fail
  go_loopw [6, 10] (fun mp i wr => ∃ (k b : Nat) (T : List Bool) (A : Option Addr) (n c : Nat), k ≤ m1 ∧ k ≤ 40 ∧ i = .int .i64 (k : Int) ∧ mp = .pointer (some ⟨b, 0, none⟩) ∧ Stand w.heap.size vz.heap.size b T A n c wr ∧ Below w.heap.size w wr) (fun _ i _ => 40 - (intOf i).toNat)
  case atStart => exact ⟨0, _, _, _, _, _, by omega, by omega, rfl, rfl, hS, hw4⟩
  case round =>
    clear hS hw4
    obtain ⟨k, b, T, A, n, c, hk, hk40, rfl, rfl, hS, hw⟩ := hrel
    have cz := hS.var.at_ 0 rfl
    by_cases hkn : k < m1 ∧ k < 40
    · obtain ⟨hk1, hk2⟩ := hkn
      have hki : (k : Int) < (m1 : Int) := by omega
      have hki2 : (k : Int) < 40 := by omega
      obtain ⟨hl1, hst⟩ := HSt.out
      obtain ⟨g, o, rfl, hg, hcells⟩ := hst (by omega)
      have hx : l1[k]? = some l1[k] := List.getElem?_eq_getElem (by omega)
      obtain ⟨d0, d1, d2, hkk, hps, hrd, hcc, hbig, _⟩ := hcells k _ hx
      generalize l1[k] = st at *
      obtain ⟨kk, B, mm, cc, ps, nn⟩ := st
      simp only at d0 d1 d2 hkk hps hrd hcc hbig
      have d0 := (hw.cell (p := ⟨g, o + (k * 3 + 0), none⟩) hg).trans d0
      have d1 := (hw.cell (p := ⟨g, o + (k * 3 + 1), none⟩) hg).trans d1
      have d2 := (hw.cell (p := ⟨g, o + (k * 3 + 2), none⟩) hg).trans d2
      rw [Nat.add_zero] at d0
      rw [← Nat.add_assoc] at d1 d2
      have hfew := fun W => few_any B mm cc ps W hps hcc hbig
      have hPs := few_rd hrd hps
      have hlen3 : (ps.take 300).length ≤ 300 := List.length_take_le _ _
      generalize ps.take 300 = qs at *
      have HFew := Lib.hid hfew
      have HPs := Lib.hid hPs
      have hS0 := hS.below ((Below.refl _ wr).alloc (Nat.le_refl _) (.cells #[.int .u8 (kk : Int), .slice B mm cc, .int .i64 nn] 41))
      have hw0 := hw.alloc hw.size (.cells #[.int .u8 (kk : Int), .slice B mm cc, .int .i64 nn] 41)
      clear hfew hPs hrd hx hcells hst hl1 cz hw
      have hkk4 : kk % 4 = 0 ∨ kk % 4 = 1 ∨ kk % 4 = 2 ∨ kk % 4 = 3 := by omega
      rcases hkk4 with hkk4 | hkk4 | hkk4 | hkk4
      · have hkind : (kk : Int) % 4 = 0 := by omega
        obtain ⟨T', x, hT', hcl, hrc⟩ := both_claim b T B cc qs hS.map.few hlen3
        have HCl := Lib.hid hcl
        have HRc := Lib.hid hrc
        clear hcl hrc hkk4
        go_wp2_with (go_at_call 16; refine (HFew.out _).mono ?_; rintro e w' ⟨rfl, rfl⟩)
        refine (HCl.out _ hS0.map (HPs.out.below hw0)).mono ?_
        rintro e v1 ⟨rfl, hC1, hM1⟩
        obtain ⟨hm1, hd1, hv1, hap1⟩ := hS0.turn hC1 hM1
        have hw1 := hC1.below hw0 hS.low hw0.size
        have cz := hv1.at_ 0 rfl
        go_wp2_with fail
        refine (HRc.out A n c v1 hd1 (HPs.out.below hw1)).mono ?_
        rintro e v2 ⟨D, n2, c2, rfl, hd2, hor, hb2⟩
        have hv2 := hv1.below hb2
        have hS2 := Stand.store (c' := c2) hS.bz hS.low hap1 (by rw [← hd2.len, hT']; exact hd1.len) hv1.1 hm1.lt (hm1.below hb2) hd2 hv2 hor hb2.size
        have cz2 := hv2.at_ 0 rfl
        have fz2 := hv2.2.2 0
        have cz3 := hS2.var.at_ 0 rfl
        have hw2 : Below w.heap.size w (v2.setCell ⟨vz.heap.size, 0, none⟩ (.slice D n2 c2)) := (below_next hw1 hb2).setCell hz0 _
        clear cz hm1 hd1 hv1 hap1 hw1 hd2 hor hb2 hv2 hC1 hM1
        have HS2 := Lib.hid hS2
        clear hS2
        go_wp2_with fail
        refine (like_any b T' D n2 c2 _ HS2.out.map HS2.out.doc).mono ?_
        rintro e v3 ⟨rfl, hb3⟩
        have hw3 := below_next hw2 hb3
        have hS3 := HS2.out.below hb3
        clear cz2 fz2 cz3
        go_wp2_with fail
        go_roundw
        case rel => exact ⟨k + 1, b, T', D, n2, c2, by omega, by omega, by go_num, rfl, hS3, hw3⟩
        case measure => simp [intOf]; omega
      · have hkind : (kk : Int) % 4 = 1 := by omega
        obtain ⟨T', x, hT', hcl, hrc⟩ := both_give b T B cc qs hS.map.few hlen3
        have HCl := Lib.hid hcl
        have HRc := Lib.hid hrc
        clear hcl hrc hkk4
        go_wp2_with (go_at_call 16; refine (HFew.out _).mono ?_; rintro e w' ⟨rfl, rfl⟩)
        refine (HCl.out _ hS0.map (HPs.out.below hw0)).mono ?_
        rintro e v1 ⟨rfl, hC1, hM1⟩
        obtain ⟨hm1, hd1, hv1, hap1⟩ := hS0.turn hC1 hM1
        have hw1 := hC1.below hw0 hS.low hw0.size
        have cz := hv1.at_ 0 rfl
        go_wp2_with fail
        refine (HRc.out A n c v1 hd1 (HPs.out.below hw1)).mono ?_
        rintro e v2 ⟨D, n2, c2, rfl, hd2, hor, hb2⟩
        have hv2 := hv1.below hb2
        have hS2 := Stand.store (c' := c2) hS.bz hS.low hap1 (by rw [← hd2.len, hT']; exact hd1.len) hv1.1 hm1.lt (hm1.below hb2) hd2 hv2 hor hb2.size
        have cz2 := hv2.at_ 0 rfl
        have fz2 := hv2.2.2 0
        have cz3 := hS2.var.at_ 0 rfl
        have hw2 : Below w.heap.size w (v2.setCell ⟨vz.heap.size, 0, none⟩ (.slice D n2 c2)) := (below_next hw1 hb2).setCell hz0 _
        clear cz hm1 hd1 hv1 hap1 hw1 hd2 hor hb2 hv2 hC1 hM1
        have HS2 := Lib.hid hS2
        clear hS2
        go_wp2_with fail
        refine (like_any b T' D n2 c2 _ HS2.out.map HS2.out.doc).mono ?_
        rintro e v3 ⟨rfl, hb3⟩
        have hw3 := below_next hw2 hb3
        have hS3 := HS2.out.below hb3
        clear cz2 fz2 cz3
        go_wp2_with fail
        go_roundw
        case rel => exact ⟨k + 1, b, T', D, n2, c2, by omega, by omega, by go_num, rfl, hS3, hw3⟩
        case measure => simp [intOf]; omega
      · have hkind : (kk : Int) % 4 = 2 := by omega
        obtain ⟨T', l, q, x, hT', hq64, htk, hrt⟩ := both_take b T nn hS.map.few
        have HTk := Lib.hid htk
        have HRt := Lib.hid hrt
        have k11 := Holds.new wr #[.int .u8 (kk : Int), .slice B mm cc, .int .i64 nn] 41
        have hblt := hS.map.lt
        have hzlt := hS.var.1
        clear htk hrt hkk4
        go_wp2_with (go_at_call 16; refine (HFew.out _).mono ?_; rintro e w' ⟨rfl, rfl⟩)
        refine (HTk.out _ hS0.map).mono ?_
        rintro e v1 ⟨E, c5, rfl, hO1, hC1, hM1⟩
        obtain ⟨hm1, hd1, hv1, hap1⟩ := hS0.turn hC1 hM1
        have hw1 := hC1.below hw0 hS.low hw0.size
        have hs1 := hC1.size
        have cz := hv1.at_ 0 rfl
        have k11' := k11.ch hC1 (by omega)
        have c11 := k11'.at_ 2 rfl
        go_wp2_with fail
        refine (HRt.out A n c v1 hd1).mono ?_
        rintro e v2 ⟨D, n2, c2, F, c6, rfl, hd2, hor, hF2, hFb, hb2⟩
        have hal : Below v2.heap.size v2 (v2.alloc (.cells #[.slice D n2 c2] 31)) := (Below.refl _ _).alloc (Nat.le_refl _) _
        have hv2 := (hv1.below hb2).below hal
        have hS2 := Stand.store (c' := c2) hS.bz hS.low hap1 (by rw [← hd2.len, hT']; exact hd1.len) hv1.1 hm1.lt ((hm1.below hb2).below hal) (hd2.below hal) hv2 hor (Nat.le_trans hb2.size hal.size)
        have cz2 := hv2.at_ 0 rfl
        have fz2 := hv2.2.2 0
        have hw2 : Below w.heap.size w ((v2.alloc (.cells #[.slice D n2 c2] 31)).setCell ⟨vz.heap.size, 0, none⟩ (.slice D n2 c2)) := (below_next (below_next hw1 hb2) hal).setCell hz0 _
        have hE := rdc_ch ((hO1.rd.below hb2).below hal) (Ch.set vz.heap.size 0 _ (.slice D n2 c2)) (fun _ g o e => by have := (hO1.blk g (by rw [e]; rfl)).1; simp at this; omega)
        have hF := rdc_ch (hF2.below hal) (Ch.set vz.heap.size 0 _ (.slice D n2 c2)) (fun h0 g o e => by have := hFb h0 g o e; have := hv1.1; omega)
        clear cz c11 k11' hm1 hd1 hv1 hap1 hw1 hd2 hor hb2 hv2 hC1 hM1 hO1 hF2 hFb hal
        have HS2 := Lib.hid hS2
        have HE := Lib.hid hE
        have HF := Lib.hid hF
        clear hS2 hE hF
        go_wp2_with fail
        refine (pairs_any E q c5 F c6 l _ HE.out HF.out (by omega)).mono ?_
        rintro e v3 ⟨rfl, hb3⟩
        have hS3 := HS2.out.below hb3
        have hw3 := below_next hw2 hb3
        have cz3 := hS3.var.at_ 0 rfl
        clear cz2 fz2 hb3
        go_wp2_with fail
        refine (like_any b T' D n2 c2 _ hS3.map hS3.doc).mono ?_
        rintro e v4 ⟨rfl, hb4⟩
        have hw4 := below_next hw3 hb4
        have hS4 := hS3.below hb4
        clear cz3 hS3
        go_wp2_with fail
        go_roundw
        case rel => exact ⟨k + 1, b, T', D, n2, c2, by omega, by omega, by go_num, rfl, hS4, hw4⟩
        case measure => simp [intOf]; omega
      · have hkind : (kk : Int) % 4 = 3 := by omega
        obtain ⟨T', l, q, x, hT', hq64, htk, _⟩ := both_take b T 1 hS.map.few
        have HTk := Lib.hid htk
        have hfork := fork_any b T _ hS0.map
        have hal1 : (wr.alloc (.cells #[.int .u8 (kk : Int), .slice B mm cc, .int .i64 nn] 41)).heap.size = wr.heap.size + 1 := by simp
        have hblt := hS.map.lt
        have hzlt := hS.var.1
        rw [hal1] at hfork
        have HFork := Lib.hid hfork
        have HAl1 := Lib.hid hal1
        clear htk hkk4 hfork hal1
        go_wp2_with (go_at_call 16; refine (HFew.out _).mono ?_; rintro e w' ⟨rfl, rfl⟩)
        refine HFork.out.mono ?_
        rintro e v1 ⟨rfl, hb1, hM1⟩
        have hS1 := hS0.below (by rw [HAl1.out]; exact hb1)
        have hw1 := hw0.trans (hb1.mono (by have := hw0.size; rw [HAl1.out] at this; exact this))
        go_wp2_with fail
        refine (HTk.out v1 hS1.map).mono ?_
        rintro e v2 ⟨E, c5, rfl, _, hC2, hM2⟩
        obtain ⟨hm2, hd2, hv2, hap2⟩ := hS1.turn hC2 hM2
        have hw2 := hC2.below hw1 hS.low hw1.size
        have hS2 : Stand w.heap.size vz.heap.size (wr.heap.size + 1) T A n c v2 := ⟨hM1.ch hC2 (by omega), hd2, hv2, by omega, by have := hS.low; omega, fun h0 g o e => ⟨by have := (hS.apart h0 g o e).2.2; omega, (hap2 h0 g o e).2⟩⟩
        have cz := hv2.at_ 0 rfl
        clear hM1 hS1 hw1 hC2 hM2 hm2 hd2 hv2 hap2 hb1
        go_wp2_with fail
        refine (like_any _ T A n c v2 hS2.map hS2.doc).mono ?_
        rintro e v3 ⟨rfl, hb3⟩
        have hw3 := below_next hw2 hb3
        have hS3 := hS2.below hb3
        clear cz hS2
        go_wp2_with fail
        go_roundw
        case rel => exact ⟨k + 1, _, T, A, n, c, by omega, by omega, by go_num, rfl, hS3, hw3⟩
        case measure => simp [intOf]; omega
    · by_cases hk1 : (k : Int) < (m1 : Int)
      all_goals
        go_wp2_with fail
        refine (like_any b T A n c wr hS.map hS.doc).mono ?_
        rintro e v9 ⟨rfl, hb9⟩
        go_wp2_with fail
        go_ret
        exact ⟨rfl, below_next hw hb9⟩
set_option maxRecDepth 100000 in
theorem lifted (os : Os) (started : os.Started) (H : Type) (enc : TypeId × Value → H) :
    ReturnsInHanded {} Try.checked os 4 .any (Rows.spaceRunsSpec.pre6 enc Try.prog Try.f4 Rows.spaceRunsRow.domain false) (Rows.spaceRunsSpec.post enc Try.prog Try.f4 false true false false) := by
  refine returnsInHanded_of_change (C := Try.checked) own started (by kernel_rfl) Try.func4
    (ChangeSpec.witness6 (enc := enc) (C := Try.checked) false ⟨#[], #[.int .u16 0, .slice none 0 0], []⟩ 8 (by kernel_rfl) (by kernel_rfl) (by kernel_rfl) (by kernel_rfl)) ?_
  intro W base args ds gs before hval0 hW hcnd _
  have hval : ∀ (j : Nat) t v, Try.f4.params[j]? = some t → args[j]? = some v → Value.okWide Try.prog W .any base t v := hval0
  have hW' := hW
  obtain ⟨p, q, hA0, hV, rfl, hfz, hnd⟩ := hW
  have hA : DataW.TrodAll enc Try.prog W 0 (fun _ => true) true Try.f4.params.toList args.toList ds p := hA0
  rw [Try.params4] at hA hval
  obtain ⟨v0, vs0, d0, ds0, p0, q0, hargs, rfl, rfl, h0, t0⟩ := trodAll_cons hA
  obtain ⟨v1, vs1, d1, ds1, p1, q1, rfl, rfl, rfl, h1, t1⟩ := trodAll_cons t0
  obtain ⟨rfl, rfl, rfl⟩ := trodAll_nil t1
  obtain rfl : args = #[v0, v1] := by cases args; simp_all
  obtain ⟨rfl, rfl⟩ := trodVars_none hV
  have k0 : Reads enc W 37 v0 d0 p0 := h0
  have lt0 : ∀ x ∈ p0, x.block < W.heap.size := by obtain ⟨m, hm⟩ := k0; exact DataW.trod_lt m _ _ _ hm
  obtain ⟨n0, rfl, w0⟩ := in_u16 (hval 0 37 v0 rfl rfl) k0
  have k1 : Reads enc W 38 v1 d1 p1 := h1
  have lt1 : ∀ x ∈ p1, x.block < W.heap.size := by obtain ⟨m, hm⟩ := k1; exact DataW.trod_lt m _ _ _ hm
  obtain ⟨A1, m1, c1, l1, rfl, r1, wc1, w1⟩ := in_steps (hval 1 38 v1 rfl rfl) k1
  clear hA0 hval0
  refine (walk n0 A1 m1 c1 l1 W w0 r1 wc1 w1).mono fun e W' ⟨he, bel⟩ => ?_
  subst he
  exact ⟨_, rfl, _, _, _, [], _, [], hW', trodAll_mk1 (shut_bool Try.underlying4 _), (trodAll_cons_mk (Below.trod laidOut (by kernel_rfl) (of_decide_eq_true (by kernel_rfl)) k0 bel lt0) (trodAll_cons_mk (Below.trod laidOut (by kernel_rfl) (of_decide_eq_true (by kernel_rfl)) k1 bel lt1) trodAll_mk0)), rfl, bel.frame _, fun h => by cases h⟩
theorem over : Rows.spaceRunsRow.holds Try.pinned (OpenSpec.ofChange Rows.spaceRunsSpec) :=
  OpenClaim.holds_of_wide 4 Try.f4 rfl rfl rfl rfl rfl rfl rfl ⟨rfl, rfl, rfl, rfl, rfl⟩ rfl rfl rfl rfl rfl (by kernel_rfl) Try.func4 (by kernel_rfl)
    (of_decide_eq_true (by kernel_rfl)) (by unfold Func.isWrapper; first | (rw [if_pos (by decide +kernel)]; kernel_rfl) | (rw [if_neg (by decide +kernel)]; exact ⟨rfl, rfl⟩))
    (fun os started H enc _ => lifted os started H enc)
theorem proved : Rows.SpaceRunsSaid := over
end Go.Proofs.Ytaaodhnenaoheaa.spaceRuns
