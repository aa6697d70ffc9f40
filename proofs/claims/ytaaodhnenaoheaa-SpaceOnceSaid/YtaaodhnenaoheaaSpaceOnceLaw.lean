/- For any number of sectors, any numbers of pairs and any givings back: what was taken, and not given back, is not taken again. -/
import Derived.Test.YtaaodhnenaoheaaSpClaim
import Derived.Test.YtaaodhnenaoheaaSpTook
import Derived.Test.YtaaodhnenaoheaaSpOnce
import Derived.Test.YtaaodhnenaoheaaInPair
import Derived.WalkKit
import Derived.ProofKit
import Derived.OpenShut
import Derived.ShutString
import Derived.ChangeOld
import Derived.Below
import Derived.Deep.RegionHeld
namespace Go.Proofs.Ytaaodhnenaoheaa.spaceOnce
open Go.ChangeShapes Go.WideShapes Go.ChangeAt Go.RowKit
set_option linter.unusedVariables false
theorem own : ownKnob Try.prog.godebug = none := by kernel_rfl
theorem laidOut : laidOutB Try.prog = true := by kernel_rfl
theorem oneH : One 54 39 (.slice none 0 0) 24 := ⟨by kernel_rfl, Try.underlying54, rfl, by omega⟩
theorem rdc_ch {s : Nat} {w w' : World} {A : Option Addr} {n b : Nat} {vs : List Value} (h : RdC s w A n vs) (hc : Ch b w w') (hne : 0 < n → ∀ g o, A = some ⟨g, o, none⟩ → g ≠ b) : RdC s w' A n vs := by
  refine ⟨h.1, fun hn => ?_⟩
  obtain ⟨g, o, rfl, hg, hcl⟩ := h.2 hn
  exact ⟨g, o, rfl, Nat.lt_of_lt_of_le hg hc.size, fun j x hx => (hc.cell (p := ⟨g, o + j, none⟩) hg (hne hn g o rfl)).trans (hcl j x hx)⟩
theorem ownv_ch {w w' : World} {base n cap x : Nat} {E : TypeId} {A : Option Addr} {vs : List Value} (h : OwnV w base E A n cap vs) (hc : Ch x w w') (hne : ∀ g, (Value.slice A n cap).ownBlock = some g → g ≠ x) : OwnV w' base E A n cap vs :=
  h.grown hc (.inr fun g hg e => hne g e (by injection hg with hg; exact hg.symm))
/-- How things stand: the map at block b, what is mine at block gm, what is held. -/
structure Keep (b gm B0 p0 : Nat) (T : List Bool) (H : Option Addr) (q c : Nat) (hs : List Sp.Hd) (w : World) : Prop where
  map : Sp.MapAt w b T
  len : T.length = p0
  mine : OwnV w (b + 1) 4 (some ⟨gm, 0, none⟩) p0 p0 (bl T)
  held : OwnV w B0 39 H q c (hs.map Sp.Hd.val)
  each : ∀ h ∈ hs, h.ps.length = h.m ∧ h.m ≤ 64 ∧ RdC 2 w h.A h.m (iv (flat h.ps)) ∧ (0 < h.m → ∀ g o, h.A = some ⟨g, o, none⟩ → B0 ≤ g ∧ g < w.heap.size ∧ ∀ x, (Value.slice H q c).ownBlock = some x → g ≠ x)
  ok : Sp.AllOk true T (Sp.all hs)
  base : B0 ≤ w.heap.size
section
variable {b gm B0 p0 q c : Nat} {T : List Bool} {H : Option Addr} {hs : List Sp.Hd} {w w' : World}
theorem Keep.below (h : Keep b gm B0 p0 T H q c hs w) (hb : Below w.heap.size w w') : Keep b gm B0 p0 T H q c hs w' :=
  ⟨h.map.below hb, h.len, h.mine.below hb, h.held.below hb, fun x hx => ⟨(h.each x hx).1, (h.each x hx).2.1, (h.each x hx).2.2.1.below hb, fun h0 g o e => ⟨((h.each x hx).2.2.2 h0 g o e).1, Nat.lt_of_lt_of_le ((h.each x hx).2.2.2 h0 g o e).2.1 hb.size, ((h.each x hx).2.2.2 h0 g o e).2.2⟩⟩, h.ok, Nat.le_trans h.base hb.size⟩
theorem Keep.many (h : Keep b gm B0 p0 T H q c hs w) : hs.length = q := by have := h.held.1; rw [List.length_map] at this; exact this
/-- What was held is given back. -/
theorem Keep.given (h : Keep b gm B0 p0 T H q c hs w) (hbg : b < gm) (hgB : gm < B0) {gh r : Nat} (hH : H = some ⟨gh, 0, none⟩) {x : Sp.Hd} (hx : hs[r]? = some x) {v u : World} (hC1 : Ch b w v) (hM : Sp.MapAt v b (Sp.setAll false T (flat x.ps)))
    (hC2 : Ch gm v u) (hO : OwnV u (b + 1) 4 (some ⟨gm, 0, none⟩) p0 p0 (bl (Sp.setAll false T (flat x.ps)))) :
    Keep b gm B0 p0 (Sp.setAll false T (flat x.ps)) H q c (hs.set r Sp.Hd.none_) (u.setCell ⟨gh, r, none⟩ (.slice none 0 0)) := by
  subst hH
  have hgh : B0 ≤ gh := (h.held.blk gh rfl).1
  have hCs : Ch gh u (u.setCell ⟨gh, r, none⟩ (.slice none 0 0)) := Ch.set gh r u _
  have hh : OwnV u B0 39 (some ⟨gh, 0, none⟩) q c (hs.map Sp.Hd.val) := ownv_ch (ownv_ch h.held hC1 (fun g e => by simp [Value.ownBlock] at e; omega)) hC2 (fun g e => by simp [Value.ownBlock] at e; omega)
  refine ⟨(hM.ch hC2 (by omega)).ch hCs (by omega), by rw [Sp.setAll_len]; exact h.len, ownv_ch hO hCs (fun g e => by simp [Value.ownBlock] at e; omega), ?_, fun y hy => ?_, ?_, by have h0 := h.base; have h1 := hC1.size; have h2 := hC2.size; have h3 := hCs.size; omega⟩
  · have := hh.set r (.slice none 0 0)
    rw [show (hs.map Sp.Hd.val).set r (.slice none 0 0) = (hs.set r Sp.Hd.none_).map Sp.Hd.val by rw [List.map_set]; rfl] at this
    exact this
  · rcases List.mem_or_eq_of_mem_set hy with h1 | h1
    · obtain ⟨e1, e2, e3, e4⟩ := h.each y h1
      refine ⟨e1, e2, rdc_ch (rdc_ch (rdc_ch e3 hC1 (fun h0 g o e => by have := (e4 h0 g o e).1; omega)) hC2 (fun h0 g o e => by have := (e4 h0 g o e).1; omega)) hCs (fun h0 g o e => (e4 h0 g o e).2.2 gh rfl), fun h0 g o e => ⟨(e4 h0 g o e).1, ?_, (e4 h0 g o e).2.2⟩⟩
      have h1 := (e4 h0 g o e).2.1
      have h2 := hC1.size
      have h3 := hC2.size
      have h4 := hCs.size
      omega
    · subst h1
      exact ⟨rfl, Nat.zero_le _, RdC.nil 2 _ _, fun h0 => absurd h0 (Nat.lt_irrefl 0)⟩
  · exact Sp.allOk_given ((Sp.allOk_perm (Sp.all_perm hx)).1 h.ok)
/-- What was taken is held, too. -/
theorem Keep.taken (h : Keep b gm B0 p0 T H q c hs w) (hbg : b < gm) (hgB : gm < B0) {x : Sp.Hd} {T' : List Bool} {v u : World} (hl : x.ps.length = x.m) (hm64 : x.m ≤ 64) (hT : T' = Sp.setAll true T (flat x.ps)) (hfree : ∀ y ∈ flat x.ps, 0 ≤ y ∧ y < (T.length : Int) ∧ T.getD y.toNat false = false) (hnd : (flat x.ps).Nodup)
    (hC1 : Ch b w v) (hM : Sp.MapAt v b T') (hA : OwnC 2 v w.heap.size 56 x.A x.m x.c (iv (flat x.ps)))
    (hC2 : Ch gm v u) (hO : OwnV u (b + 1) 4 (some ⟨gm, 0, none⟩) p0 p0 (bl T')) (hgmv : gm < w.heap.size) {H' : Option Addr} {c' : Nat} {z : World}
    (hz : GrewV (u.alloc (.cells #[x.val] 39)) z B0 39 H H' q c (q + 1) c' (hs.map Sp.Hd.val ++ [x.val])) :
    Keep b gm B0 p0 T' H' (q + 1) c' (hs ++ [x]) z := by
  have hsw := hC1.size
  have hsv := hC2.size
  have hB0w : ∀ g, (Value.slice H q c).ownBlock = some g → B0 ≤ g ∧ g < w.heap.size := h.held.blk
  have hua : Below u.heap.size u (u.alloc (.cells #[x.val] 39)) := (Below.refl _ _).alloc (Nat.le_refl _) _
  have hzs := hz.grew.size
  simp at hzs
  have hown' : ∀ g, (Value.slice H' (q + 1) c').ownBlock = some g → (Value.slice H q c).ownBlock = some g ∨ g = u.heap.size + 1 := by
    intro g e
    rcases hz.blk with e2 | e2
    · exact .inl (by rw [← e2]; exact e)
    · rw [e] at e2; injection e2 with e2; simp at e2; exact .inr e2
  refine ⟨?_, by rw [hT, Sp.setAll_len]; exact h.len, ?_, ?_, fun y hy => ?_, ?_, by have h0 := h.base; omega⟩
  · exact ((hM.ch hC2 (by omega)).below hua).grown hz.grew (fun e => by have := (hB0w b e.symm).1; omega)
  · exact (hO.below hua).grown hz.grew (.inr fun g hg e => by have := (hB0w g hg).1; simp [Value.ownBlock] at e; omega)
  · have := hz.own
    rw [show hs.map Sp.Hd.val ++ [x.val] = (hs ++ [x]).map Sp.Hd.val by rw [List.map_append]; rfl] at this
    exact this
  · have keepC : ∀ {A : Option Addr} {m : Nat} {l : List Value}, RdC 2 u A m l → (0 < m → ∀ g o, A = some ⟨g, o, none⟩ → g < u.heap.size ∧ ∀ x, (Value.slice H q c).ownBlock = some x → g ≠ x) → RdC 2 z A m l := by
      intro A m l hr hn
      refine ⟨hr.1, fun h0 => ?_⟩
      obtain ⟨g, o, rfl, hg, hcl⟩ := (hr.below hua).2 h0
      obtain ⟨n1, n2⟩ := hn h0 g o rfl
      exact ⟨g, o, rfl, Nat.lt_of_lt_of_le hg hz.grew.size, fun j y hy => (hz.grew.cell_far ⟨g, o + j, none⟩ hg (fun e => n2 g e.symm rfl)).trans (hcl j y hy)⟩
    rcases List.mem_append.1 hy with h1 | h1
    · obtain ⟨e1, e2, e3, e4⟩ := h.each y h1
      have r1 := rdc_ch e3 hC1 (fun h0 g o e => by have := (e4 h0 g o e).1; omega)
      have r2 := rdc_ch r1 hC2 (fun h0 g o e => by have := (e4 h0 g o e).1; omega)
      refine ⟨e1, e2, keepC r2 (fun h0 g o e => ⟨by have := (e4 h0 g o e).2.1; omega, (e4 h0 g o e).2.2⟩), fun h0 g o e => ⟨(e4 h0 g o e).1, by have := (e4 h0 g o e).2.1; omega, fun x2 hx2 => ?_⟩⟩
      rcases hown' x2 hx2 with e5 | e5
      · exact (e4 h0 g o e).2.2 x2 e5
      · have := (e4 h0 g o e).2.1; omega
    · rw [List.mem_singleton] at h1
      subst h1
      have hb2 : ∀ g o, y.A = some ⟨g, o, none⟩ → w.heap.size ≤ g ∧ g < v.heap.size := fun g o e => hA.blk g (by rw [e]; rfl)
      have hB0s : ∀ x, (Value.slice H q c).ownBlock = some x → x < w.heap.size := fun x hx => (hB0w x hx).2
      have r2 := rdc_ch hA.rd hC2 (fun h0 g o e => by have := hb2 g o e; omega)
      refine ⟨hl, hm64, keepC r2 (fun h0 g o e => ⟨by have := hb2 g o e; omega, fun x2 hx2 => by have := hb2 g o e; have := hB0s x2 hx2; omega⟩), fun h0 g o e => ⟨?_, by have := hb2 g o e; omega, fun x2 hx2 => ?_⟩⟩
      · have h5 := hb2 g o e
        have h6 := h.base
        omega
      · rcases hown' x2 hx2 with e5 | e5
        · have := hb2 g o e; have := hB0s x2 e5; omega
        · have := hb2 g o e; omega
  · rw [Sp.all_snoc, hT]
    exact Sp.allOk_taken h.ok hfree hnd
end
set_option maxRecDepth 100000 in
set_option maxHeartbeats 32000000 in
theorem walk (n0 : Nat) (A1 : Option Addr) (m1 c1 : Nat) (l1 : List Nat) (A2 : Option Addr) (m2 c2 : Nat) (l2 : List Nat) (w : World) (w0 : n0 < 65536) (r1 : Rd w A1 m1 l1) (wc1 : m1 ≤ c1) (w1 : m1 ≤ 9223372036854775807) (r2 : Rd w A2 m2 l2) (wc2 : m2 ≤ c2) (w2 : m2 ≤ 9223372036854775807) :
    Calls Try.prog 5 #[.int .u16 (n0 : Int), .slice A1 m1 c1, .slice A2 m2 c2] w fun e w' => e = .returned (.bool true) ∧ Below w.heap.size w w' := by
-- heartbeats 32000000
  have hn : ∃ s : Nat, s = n0 % 700 ∧ s < 700 := ⟨_, rfl, Nat.mod_lt _ (by omega)⟩
  obtain ⟨s, hs, hs2⟩ := hn
  have hmod : (n0 : Int) % 700 = (s : Int) := by omega
  have hnew := fun W => new_map (s : Int) W (by omega) (by omega)
  have hp5 : Sp.plots (s : Int) ≤ 511 := by unfold Sp.plots; split <;> (try split) <;> omega
  generalize Sp.plots (s : Int) = p0 at *
  have hmk := make_row oneB p0 (by omega)
  have HN := Lib.hid hnew
  have HA := Lib.hid (fun W => awake_any W)
  have HL1 := Lib.hid r1
  have HL2 := Lib.hid r2
  clear hnew r1 r2 hs
  go_enter Try.func5, Try.ntmps5
  go_wp2_with fail
  refine (HN.out _).mono ?_
  rintro e v1 ⟨rfl, hb1, hM1⟩
  go_wp2_with fail
  refine (HA.out _).mono ?_
  rintro e v2 ⟨rfl, hb2⟩
  have hM2 := hM1.below hb2
  have hw2 := below_next hb1 hb2
  have hln := len_any _ _ v2 hM2
  rw [List.length_replicate] at hln
  have HLn := Lib.hid hln
  have hblt := hM2.lt
  clear hM1 hb1 hb2 hln
  go_wp2_with (go_at_call 25; refine HLn.out.mono ?_; rintro e w' ⟨rfl, rfl⟩)
  have hK : Keep w.heap.size v2.heap.size (v2.heap.size + 1) p0 (List.replicate p0 false) none 0 0 [] (v2.alloc (.cells (madeCells #[.bool false] p0) 4)) := by
    refine ⟨hM2.below ((Below.refl _ _).alloc (Nat.le_refl _) _), by simp, ?_, OwnV.none_ _ _ _, (fun x hx => by cases hx), ⟨(fun x hx => by cases hx), List.nodup_nil⟩, by simp⟩
    have := OwnV.zeros v2 4 (.bool false) (w.heap.size + 1) p0 (by omega) (by omega)
    rw [bl_zero] at this
    exact this
  have hw3 := hw2.alloc hw2.size (.cells (madeCells #[.bool false] p0) 4)
  have hgmB : v2.heap.size < v2.heap.size + 1 := Nat.lt_succ_self _
  clear hM2 hw2 hmk
  generalize v2.heap.size + 1 = B0 at *
  generalize hgm : v2.heap.size = gm at *
  clear hgm
  go_loopw [10, 11] (fun l i wr => ∃ (k q c : Nat) (H : Option Addr) (T : List Bool) (hs : List Sp.Hd), k ≤ m1 ∧ k ≤ 60 ∧ q ≤ k ∧ i = .int .i64 (k : Int) ∧ l = .slice H q c ∧ Keep w.heap.size gm B0 p0 T H q c hs wr ∧ Below w.heap.size w wr) (fun _ i _ => 60 - (intOf i).toNat)
  case atStart => exact ⟨0, 0, 0, none, _, [], by omega, by omega, by omega, rfl, rfl, hK, hw3⟩
  case round =>
    clear hK hw3
    obtain ⟨k, q, c, H, T, hs, hk, hk60, hqk, rfl, rfl, hK, hw⟩ := hrel
    by_cases hkn : k < m1 ∧ k < 60
    · obtain ⟨hk1, hk2⟩ := hkn
      have hki : (k : Int) < (m1 : Int) := by omega
      have hki2 : (k : Int) < 60 := by omega
      obtain ⟨cnd, hcnd⟩ : ∃ cnd : Bool, cnd = (decide (k < m2) && decide (0 < q)) := ⟨_, rfl⟩
      have HCnd := Lib.hid hcnd
      clear hcnd
      go_upto_region 9 with fail
      go_cut [59] (fun s59 wx => s59 = .bool cnd ∧ wr = wx)
      case first =>
        by_cases h1 : k < m2
        · have h1i : (k : Int) < (m2 : Int) := by omega
          by_cases h2 : 0 < q
          · have h2i : (0 : Int) < (q : Int) := by omega
            have hcc : cnd = true := by rw [HCnd.out]; simp [h1, h2]
            subst hcc
            go_wp2_with fail
            go_meet
            exact ⟨rfl, rfl⟩
          · have h2i : ¬ (0 : Int) < (q : Int) := by omega
            have hcc : cnd = false := by rw [HCnd.out]; simp [h2]
            subst hcc
            go_wp2_with fail
            go_meet
            exact ⟨rfl, rfl⟩
        · have h1i : ¬ (k : Int) < (m2 : Int) := by omega
          have hcc : cnd = false := by rw [HCnd.out]; simp [h1]
          subst hcc
          go_wp2_with fail
          go_meet
          exact ⟨rfl, rfl⟩
      case rest =>
        obtain ⟨rfl, rfl⟩ := hcut
        go_upto_if 59 with fail
        go_cut [12, 13] from 60 to 106 (fun s12 s13 wx => ∃ (T : List Bool) (hs : List Sp.Hd), Keep w.heap.size gm B0 p0 T H q c hs wx ∧ Below w.heap.size w wx)
        case first =>
          cases cnd with
          | false =>
            go_wp2_with fail
            go_meet
            exact ⟨T, hs, hK, hw⟩
          | true =>
            have hc := HCnd.out
            rw [eq_comm, Bool.and_eq_true, decide_eq_true_eq, decide_eq_true_eq] at hc
            obtain ⟨hkm2, hq0⟩ := hc
            have hq0i : (0 : Int) < (q : Int) := by omega
            have hkm2i : (k : Int) < (m2 : Int) := by omega
            obtain ⟨g2, o2, t, rfl, hg2, ht, ht2, hct⟩ := HL2.out.at_ hkm2
            have ct := (hw.cell (p := ⟨g2, o2 + k, none⟩) hg2).trans hct
            obtain ⟨gh, rfl, hgh1, hgh2⟩ := hK.held.form hq0
            obtain ⟨r, hr⟩ : ∃ r, r = t % q := ⟨_, rfl⟩
            have hrq : r < q := by rw [hr]; exact Nat.mod_lt _ hq0
            have hri : (t : Int) % (q : Int) = (r : Int) := by rw [hr]; omega
            have hrqi : (r : Int) < (q : Int) := by omega
            have hxr : hs[r]? = some (hs[r]'(by rw [hK.many]; exact hrq)) := List.getElem?_eq_getElem _
            generalize (hs[r]'(by rw [hK.many]; exact hrq)) = x at hxr
            have hxm : x ∈ hs := List.mem_of_getElem? hxr
            obtain ⟨e1, e2, e3, e4⟩ := hK.each x hxm
            have cH : wr.cell? ⟨gh, r, none⟩ = some (.slice x.A x.m x.c) := hK.held.cell (by rw [List.getElem?_map, hxr]; rfl)
            have fH := hK.held.free r
            have hokx : Sp.AllOk true T (flat x.ps) := Sp.allOk_left ((Sp.allOk_perm (Sp.all_perm hxr)).1 hK.ok)
            have hgive := gives_any w.heap.size T x.A x.m x.c x.ps wr hK.map e3 e1 (by omega)
            rw [Sp.turnAll_all hokx] at hgive
            have hgive : Calls Try.prog 19 #[.pointer (some ⟨w.heap.size, 0, none⟩), .slice x.A x.m x.c] wr fun e w' => e = .returned (.int .i64 0) ∧ Ch w.heap.size wr w' ∧ Sp.MapAt w' w.heap.size (Sp.setAll false T (flat x.ps)) := hgive
            have HGive := Lib.hid hgive
            clear hr hgive hct ht
            go_wp2_with fail
            refine HGive.out.mono ?_
            rintro e v3 ⟨rfl, hC3, hM3⟩
            have hO3 := ownv_ch hK.mine hC3 (fun g e => by simp [Value.ownBlock] at e; omega)
            have hH3 := ownv_ch hK.held hC3 (fun g e => by simp [Value.ownBlock] at e; omega)
            have hR3 := rdc_ch e3 hC3 (fun h0 g o e => by have := (e4 h0 g o e).1; omega)
            have hcell3 : (hs.map Sp.Hd.val)[r]? = some (.slice x.A x.m x.c) := by rw [List.getElem?_map, hxr]; rfl
            have hfar : ∀ h0 : 0 < x.m, ∀ g o, x.A = some ⟨g, o, none⟩ → g ≠ gm ∧ g ≠ gh := fun h0 g o e => ⟨by have := (e4 h0 g o e).1; omega, (e4 h0 g o e).2.2 gh rfl⟩
            have hlen3 : ∀ S : List Int, (Sp.setAll false T S).length = p0 := fun S => by rw [Sp.setAll_len]; exact hK.len
            have HFar := Lib.hid hfar
            have HR3 := Lib.hid hR3
            have HH3 := Lib.hid hH3
            have HM3 := Lib.hid hM3
            have HC3 := Lib.hid hC3
            have HCell3 := Lib.hid hcell3
            have HOk := Lib.hid hokx
            have HLen3 := Lib.hid hlen3
            have HXr := Lib.hid hxr
            have HK := Lib.hid hK
            have HE4 := Lib.hid e4
            clear hfar hR3 hH3 hM3 hC3 hcell3 hokx hlen3 hxr hK e3 e4 ct cH fH hxm
            go_wp2_with fail
            obtain ⟨wo, hwo⟩ : ∃ wo : World, wo = wr := ⟨_, rfl⟩
            subst hwo
            go_loopw [13] (fun i wx => ∃ j : Nat, j ≤ x.m ∧ i = .int .i64 (j : Int) ∧ OwnV wx (w.heap.size + 1) 4 (some ⟨gm, 0, none⟩) p0 p0 (bl (Sp.setAll false T ((flat x.ps).take (2 * j)))) ∧ Ch gm v3 wx) (fun i _ => x.m - (intOf i).toNat)
            case atStart => exact ⟨0, by omega, rfl, hO3, Ch.refl _ _⟩
            case round =>
              clear hO3
              obtain ⟨j, hj, rfl, hO, hC⟩ := hrel
              have hHx := ownv_ch HH3.out hC (fun g e => by simp [Value.ownBlock] at e; omega)
              have cH := hHx.cell HCell3.out
              have fH := hHx.free r
              by_cases hjm : j < x.m
              · have hji : (j : Int) < (x.m : Int) := by omega
                have hq2 : x.ps[j]? = some (x.ps[j]'(by omega)) := List.getElem?_eq_getElem _
                generalize (x.ps[j]'(by omega)) = pq at hq2
                obtain ⟨px, py⟩ := pq
                obtain ⟨fx, fy⟩ := Sp.flat_at2 hq2
                obtain ⟨rx, rx2, _⟩ := HOk.out.1 px (List.mem_of_getElem? fx)
                obtain ⟨ry, ry2, _⟩ := HOk.out.1 py (List.mem_of_getElem? fy)
                rw [HK.out.len] at rx2 ry2
                obtain ⟨a, rfl⟩ := Int.eq_ofNat_of_zero_le rx
                obtain ⟨c8, rfl⟩ := Int.eq_ofNat_of_zero_le ry
                obtain ⟨g, o, hxA, hg, hcells⟩ := HR3.out.2 (by omega)
                obtain ⟨n1, n2⟩ := HFar.out (by omega) g o hxA
                have cx : wr.cell? ⟨g, o + j * 2, none⟩ = some (.int .i64 (a : Int)) := (hC.cell (p := ⟨g, o + j * 2, none⟩) hg n1).trans (hcells _ _ (Sp.flat_get hq2).1)
                have cy0 : wr.cell? ⟨g, o + (j * 2 + 1), none⟩ = some (.int .i64 (c8 : Int)) := (hC.cell (p := ⟨g, o + (j * 2 + 1), none⟩) hg n1).trans (hcells _ _ (Sp.flat_get hq2).2)
                rw [← Nat.add_assoc] at cy0
                have ma := hO.cell (bl_at (T := Sp.setAll false T ((flat x.ps).take (2 * j))) (k := a) (by rw [HLen3.out]; omega))
                have fa := hO.free a
                have hO1 := hO.set a (.bool false)
                rw [← bl_set] at hO1
                have hC1 : Ch gm wr (wr.setCell ⟨gm, a, none⟩ (.bool false)) := Ch.set gm a wr _
                have cH1 : (wr.setCell ⟨gm, a, none⟩ (.bool false)).cell? ⟨gh, r, none⟩ = some (.slice x.A x.m x.c) := (hC1.cell (p := ⟨gh, r, none⟩) (hHx.blk gh rfl).2 (by simp; omega)).trans cH
                have cy : (wr.setCell ⟨gm, a, none⟩ (.bool false)).cell? ⟨g, o + j * 2 + 1, none⟩ = some (.int .i64 (c8 : Int)) := (hC1.cell (p := ⟨g, o + j * 2 + 1, none⟩) (Nat.lt_of_lt_of_le hg hC.size) n1).trans cy0
                have mb := hO1.cell (bl_at (T := (Sp.setAll false T ((flat x.ps).take (2 * j))).set a false) (k := c8) (by rw [List.length_set, HLen3.out]; omega))
                have fb := hO1.free c8
                have hO2 := hO1.set c8 (.bool false)
                rw [← bl_set] at hO2
                have hC2 := (hC.trans hC1).trans (Ch.set gm c8 _ (.bool false))
                have hstep := Sp.setAll_two false T fx fy
                have HStep := Lib.hid hstep
                have hae : (a : Int) < (p0 : Int) := rx2
                have hce : (c8 : Int) < (p0 : Int) := ry2
                have ha0 : (0 : Int) ≤ (a : Int) := by omega
                have hc0 : (0 : Int) ≤ (c8 : Int) := by omega
                have HO2 := Lib.hid hO2
                have HC2 := Lib.hid hC2
                clear hq2 fx fy hcells hO1 hC1 hstep cy0 hO2 hC2 hO hC hHx
                go_wp2_with fail
                go_roundw
                case rel => exact ⟨j + 1, by omega, by go_num, by rw [HStep.out]; exact HO2.out, HC2.out⟩
                case measure => simp [intOf]; omega
              · have hjm2 : j = x.m := by omega
                subst hjm2
                have hji : ¬ (x.m : Int) < (x.m : Int) := by omega
                have hte : (flat x.ps).take (2 * x.m) = flat x.ps := List.take_of_length_le (by rw [flat_length]; omega)
                rw [hte] at hO
                have hKn := HK.out.given (by omega) hgmB rfl HXr.out HC3.out HM3.out hC hO
                have hwn : Below w.heap.size w (wr.setCell ⟨gh, r, none⟩ (.slice none 0 0)) := (hC.below (HC3.out.below hw (Nat.le_refl _) hw.size) (by omega) (HC3.out.below hw (Nat.le_refl _) hw.size).size).setCell (show w.heap.size ≤ gh by omega) _
                go_wp2_with fail
                go_meet
                exact ⟨_, _, hKn, hwn⟩
        case rest =>
          clear hK hw HCnd
          obtain ⟨T, hs, hK, hw⟩ := hcut
          obtain ⟨g1, o1, t, rfl, hg1, ht, ht2, hct⟩ := HL1.out.at_ hk1
          have ct := (hw.cell (p := ⟨g1, o1 + k, none⟩) hg1).trans hct
          obtain ⟨kk, hkk⟩ : ∃ kk, kk = t % 9 := ⟨_, rfl⟩
          have hkk9 : kk < 9 := by rw [hkk]; exact Nat.mod_lt _ (by omega)
          have hki9 : (t : Int) % 9 = (kk : Int) := by rw [hkk]; omega
          clear hct ht hkk
          by_cases hfr : Sp.free T < 2 * kk
          · have htk := take_space w.heap.size T kk wc hK.map (by omega) hfr
            have HTk := Lib.hid htk
            have HK := Lib.hid hK
            clear htk hK
            go_wp2_with fail
            refine HTk.out.mono ?_
            rintro e v3 ⟨rfl, hb3⟩
            have hK3 := HK.out.below hb3
            have hw3 := below_next hw hb3
            go_wp2_with fail
            go_roundw
            case rel => exact ⟨k + 1, q, c, H, T, hs, by omega, by omega, by omega, by go_num, rfl, hK3, hw3⟩
            case measure => simp [intOf]; omega
          · have htk := take_yes w.heap.size T kk wc hK.map (by omega) (by omega)
            have hlset := Sp.low_set T (2 * kk) T.length
            have hllt := Sp.low_lt T (2 * kk) T.length
            have hlri := Sp.low_rise T (2 * kk) T.length
            have hlall := Sp.low_all (T := T) (m := 2 * kk) (by omega)
            unfold TakeGives at htk
            obtain ⟨ps, hpl, hpf⟩ := Sp.unflat hlall
            rw [hlset, ← hpf] at htk
            rw [← hpf] at hllt hlri
            rw [hK.len] at hllt
            have HTk := Lib.hid htk
            have HLt := Lib.hid hllt
            have HRi := Lib.hid hlri
            have HPl := Lib.hid hpl
            have HK := Lib.hid hK
            clear htk hlset hllt hlri hlall hpf hpl hK hfr
            go_wp2_with fail
            refine HTk.out.mono ?_
            rintro e v3 ⟨A, d, rfl, hA, hC3, hM3⟩
            have hO3 := ownv_ch HK.out.mine hC3 (fun g e => by simp [Value.ownBlock] at e; omega)
            have hgmw : gm < wc.heap.size := (HK.out.mine.blk gm rfl).2
            have hAfar : ∀ g o, A = some ⟨g, o, none⟩ → wc.heap.size ≤ g := fun g o e => (hA.blk g (by rw [e]; rfl)).1
            have HA3 := Lib.hid hA
            have HC3 := Lib.hid hC3
            have HM3 := Lib.hid hM3
            have HAfar := Lib.hid hAfar
            clear hA hC3 hM3 hAfar
            go_wp2_with fail
            go_loopw [16] (fun i wx => ∃ j : Nat, j ≤ kk ∧ i = .int .i64 (j : Int) ∧ OwnV wx (w.heap.size + 1) 4 (some ⟨gm, 0, none⟩) p0 p0 (bl (Sp.setAll true T ((flat ps).take (2 * j)))) ∧ Ch gm v3 wx) (fun i _ => kk - (intOf i).toNat)
            case atStart => exact ⟨0, by omega, rfl, hO3, Ch.refl _ _⟩
            case round =>
              clear hO3
              obtain ⟨j, hj, rfl, hO, hC⟩ := hrel
              by_cases hjm : j < kk
              · have hji : (j : Int) < (kk : Int) := by omega
                have hpl := HPl.out
                have hq2 : ps[j]? = some (ps[j]'(by omega)) := List.getElem?_eq_getElem _
                generalize (ps[j]'(by omega)) = pq at hq2
                obtain ⟨px, py⟩ := pq
                obtain ⟨fx, fy⟩ := Sp.flat_at2 hq2
                obtain ⟨rx, rx2, rx3⟩ := HLt.out px (List.mem_of_getElem? fx)
                obtain ⟨ry, ry2, ry3⟩ := HLt.out py (List.mem_of_getElem? fy)
                have hxy := Sp.rise_at HRi.out fx fy (by omega)
                have hbx := Sp.rise_take HRi.out (j := 2 * j) fx (by omega)
                have hby := Sp.rise_take HRi.out (j := 2 * j) fy (by omega)
                have hpos : ∀ y ∈ (flat ps).take (2 * j), 0 ≤ y := fun y hy => (HLt.out y (List.mem_of_mem_take hy)).1
                obtain ⟨a, rfl⟩ := Int.eq_ofNat_of_zero_le rx
                obtain ⟨c8, rfl⟩ := Int.eq_ofNat_of_zero_le ry
                have hma : (Sp.setAll true T ((flat ps).take (2 * j))).getD a false = false := by
                  rw [Sp.setAll_other hpos (fun e => by have := hbx _ e; omega)]; simpa using rx3
                have hmb : (Sp.setAll true T ((flat ps).take (2 * j))).getD c8 false = false := by
                  rw [Sp.setAll_other hpos (fun e => by have := hby _ e; omega)]; simpa using ry3
                have hsl : (Sp.setAll true T ((flat ps).take (2 * j))).length = p0 := by rw [Sp.setAll_len]; exact HK.out.len
                obtain ⟨g, o, hxA, hg, hcells⟩ := HA3.out.rd.2 (by omega)
                have n1 : g ≠ gm := by have := HAfar.out g o hxA; omega
                have cx : wr.cell? ⟨g, o + j * 2, none⟩ = some (.int .i64 (a : Int)) := (hC.cell (p := ⟨g, o + j * 2, none⟩) hg n1).trans (hcells _ _ (Sp.flat_get hq2).1)
                have cy : wr.cell? ⟨g, o + (j * 2 + 1), none⟩ = some (.int .i64 (c8 : Int)) := (hC.cell (p := ⟨g, o + (j * 2 + 1), none⟩) hg n1).trans (hcells _ _ (Sp.flat_get hq2).2)
                rw [← Nat.add_assoc] at cy
                have ma := hO.cell (bl_at (T := Sp.setAll true T ((flat ps).take (2 * j))) (k := a) (by omega))
                have mb := hO.cell (bl_at (T := Sp.setAll true T ((flat ps).take (2 * j))) (k := c8) (by omega))
                rw [hma] at ma
                rw [hmb] at mb
                have fa := hO.free a
                have fb0 := hO.free c8
                have hO1 := hO.set a (.bool true)
                rw [← bl_set] at hO1
                have mb1 := hO1.cell (bl_at (T := (Sp.setAll true T ((flat ps).take (2 * j))).set a true) (k := c8) (by rw [List.length_set]; omega))
                have fb := hO1.free c8
                have hO2 := hO1.set c8 (.bool true)
                rw [← bl_set] at hO2
                have hC2 := (hC.trans (Ch.set gm a wr (.bool true))).trans (Ch.set gm c8 _ (.bool true))
                have hstep := Sp.setAll_two true T fx fy
                have HStep := Lib.hid hstep
                have hae : (a : Int) < (p0 : Int) := rx2
                have hce : (c8 : Int) < (p0 : Int) := ry2
                have ha0 : (0 : Int) ≤ (a : Int) := by omega
                have hc0 : (0 : Int) ≤ (c8 : Int) := by omega
                have hn1 : ¬ (a : Int) < 0 := by omega
                have hn2 : ¬ (c8 : Int) ≤ (a : Int) := by omega
                have hn3 : ¬ (p0 : Int) ≤ (c8 : Int) := by omega
                subst hxA
                have HO2 := Lib.hid hO2
                have HC2 := Lib.hid hC2
                clear hq2 fx fy hcells hO1 hstep hO2 hC2 hO hC hpl hbx hby hpos hma hmb hsl rx3 ry3
                go_wp2_with fail
                go_region
                all_goals
                  go_wp2_with fail
                  go_roundw
                  case rel => exact ⟨j + 1, by omega, by go_num, by rw [HStep.out]; exact HO2.out, HC2.out.drew⟩
                  case measure => simp [intOf]; omega
              · have hjm2 : j = kk := by omega
                subst hjm2
                have hji : ¬ (j : Int) < (j : Int) := by omega
                have hte : (flat ps).take (2 * j) = flat ps := List.take_of_length_le (by rw [flat_length]; have := HPl.out; omega)
                rw [hte] at hO
                have hHh := ownv_ch (ownv_ch HK.out.held HC3.out (fun g e => by have := (HK.out.held.blk g e).1; omega)) hC (fun g e => by have := (HK.out.held.blk g e).1; omega)
                have hHa := hHh.alloc (.cells #[.slice A j d] 39)
                have hra := rdv_one wr 39 (.slice A j d)
                have hw3 := HC3.out.below hw (Nat.le_refl _) hw.size
                have hw4 := hC.below hw3 (by omega) hw3.size
                have hba : B0 ≤ (wr.alloc (.cells #[.slice A j d] 39)).heap.size := by have h1 := HK.out.base; have h2 := HC3.out.size; have h3 := hC.size; simp; omega
                have hql : q + 1 ≤ 1000000 := by omega
                have hpl := HPl.out
                have hfree : ∀ y ∈ flat ps, 0 ≤ y ∧ y < (T.length : Int) ∧ T.getD y.toNat false = false := by rw [HK.out.len]; exact HLt.out
                have hKt := fun H' c' z hz => HK.out.taken (by omega) hgmB (x := ⟨A, j, d, ps⟩) (H' := H') (c' := c') (z := z) hpl (show j ≤ 64 by omega) rfl hfree (Sp.rise_nodup HRi.out) HC3.out HM3.out HA3.out hC hO hgmw hz
                have HKt := Lib.hid hKt
                have HH := Lib.hid hHh
                have HW4 := Lib.hid (hw4.alloc hw4.size (.cells #[.slice A j d] 39))
                clear hHh hfree hKt hw3 hw4 hte hO hC
                go_wp2_with (first | (at_builtin; refine wpList_appV oneH rfl (.tmp 167) (.tmp 169) rfl rfl hHa (some ⟨wr.heap.size, 0, none⟩) 1 1 [.slice A j d] (by intro u hu; rw [List.mem_singleton] at hu; subst hu; rfl) rfl hra hql hba ?_; intro A5 c5 v5 hg5))
                have hK5 := HKt.out _ _ _ hg5
                have hw5 : Below w.heap.size w v5 := HW4.out.grown hg5.grew (by have := HW4.out.size; exact this) (fun g e => by have := (HH.out.blk g e).1; have h1 := (HK.out.map).lt; omega)
                clear hHa hra hg5
                go_roundw
                case rel => exact ⟨k + 1, q + 1, c5, A5, _, _, by omega, by omega, by omega, by go_num, rfl, hK5, hw5⟩
                case measure => simp [intOf]; omega
    · have htak := taken_any w.heap.size T wr hK.map
      rw [hK.len] at htak
      have hfre := fun v (hv : Below wr.heap.size wr v) => free_any w.heap.size T v (hK.map.below hv)
      have hlen := fun v (hv : Below wr.heap.size wr v) => len_any w.heap.size T v (hK.map.below hv)
      rw [hK.len] at hlen
      have hll := Sp.list_len T p0
      have hfv : Sp.free T = p0 - (Sp.list T p0).length := by unfold Sp.free; rw [hK.len]
      have hwrap : IntKind.i64.wrap ((Sp.free T : Int) + ((Sp.list T p0).length : Int)) = (p0 : Int) := by rw [IntKind.wrap_i64]; omega
      have HTak := Lib.hid htak
      have HFre := Lib.hid hfre
      have HLen := Lib.hid hlen
      have HWrap := Lib.hid hwrap
      have HSum := Lib.hid (show (Sp.free T : Int) + ((Sp.list T p0).length : Int) = (p0 : Int) by omega)
      have HK := Lib.hid hK
      have HLL := Lib.hid (Sp.list_len T)
      clear htak hfre hlen hfv hwrap hK hll
      by_cases hk1 : (k : Int) < (m1 : Int)
      all_goals
        go_wp2_with fail
        go_loop [19, 20] (fun n i => ∃ j : Nat, j ≤ p0 ∧ i = .int .i64 (j : Int) ∧ n = .int .i64 ((Sp.list T j).length : Int)) (fun _ i => p0 - (intOf i).toNat)
        case atStart => exact ⟨0, by omega, rfl, rfl⟩
        case round =>
          obtain ⟨j, hj, rfl, rfl⟩ := hrel
          by_cases hjm : j < p0
          · have hji : (j : Int) < (p0 : Int) := by omega
            have ma := HK.out.mine.cell (bl_at (T := T) (k := j) (by rw [HK.out.len]; exact hjm))
            have hlj := HLL.out j
            cases ht : T.getD j false with
            | true =>
              rw [ht] at ma
              have HNx := Lib.hid (show (Sp.list T (j + 1)).length = (Sp.list T j).length + 1 by rw [Sp.list_yes ht, List.length_append]; rfl)
              clear ht
              go_wp2_with fail
              go_round
              case rel => exact ⟨j + 1, by omega, by go_num, by rw [HNx.out]; go_num⟩
              case measure => simp [intOf]; omega
            | false =>
              rw [ht] at ma
              have HNx := Lib.hid (show (Sp.list T (j + 1)).length = (Sp.list T j).length by rw [Sp.list_no ht])
              clear ht
              go_wp2_with fail
              go_round
              case rel => exact ⟨j + 1, by omega, by go_num, by rw [HNx.out]⟩
              case measure => simp [intOf]; omega
          · have hjm2 : j = p0 := by omega
            subst hjm2
            have hji : ¬ (j : Int) < (j : Int) := by omega
            go_wp2_with fail
            refine HTak.out.mono ?_
            rintro e v3 ⟨A3, n3, c3, rfl, hO3, hb3⟩
            have hn3 := hO3.1
            subst hn3
            have hf4 := HFre.out v3 hb3
            have HF4 := Lib.hid hf4
            clear hf4
            go_wp2_with (go_at_call 27; refine HF4.out.mono ?_; rintro e v4 ⟨rfl, hb4⟩)
            have hl5 := HLen.out v4 (below_next hb3 hb4)
            have HL5 := Lib.hid hl5
            clear hl5
            have hsum := HSum.out
            have h64 : wrap64 (j : Int) = (j : Int) := by unfold wrap64; omega
            refine HL5.out.mono ?_
            rintro e v5 ⟨rfl, rfl⟩
            go_wp2_with fail
            go_ret
            exact ⟨rfl, below_next (below_next hw hb3) hb4⟩
set_option maxRecDepth 100000 in
theorem lifted (os : Os) (started : os.Started) (H : Type) (enc : TypeId × Value → H) :
    ReturnsInHanded {} Try.checked os 5 .any (Rows.spaceOnceSpec.pre6 enc Try.prog Try.f5 Rows.spaceOnceRow.domain false) (Rows.spaceOnceSpec.post enc Try.prog Try.f5 false true false false) := by
  refine returnsInHanded_of_change (C := Try.checked) own started (by kernel_rfl) Try.func5
    (ChangeSpec.witness6 (enc := enc) (C := Try.checked) false ⟨#[], #[.int .u16 0, .slice none 0 0, .slice none 0 0], []⟩ 8 (by kernel_rfl) (by kernel_rfl) (by kernel_rfl) (by kernel_rfl)) ?_
  intro W base args ds gs before hval0 hW hcnd _
  have hval : ∀ (j : Nat) t v, Try.f5.params[j]? = some t → args[j]? = some v → Value.okWide Try.prog W .any base t v := hval0
  have hW' := hW
  obtain ⟨p, q, hA0, hV, rfl, hfz, hnd⟩ := hW
  have hA : DataW.TrodAll enc Try.prog W 0 (fun _ => true) true Try.f5.params.toList args.toList ds p := hA0
  rw [Try.params5] at hA hval
  obtain ⟨v0, vs0, d0, ds0, p0, q0, hargs, rfl, rfl, h0, t0⟩ := trodAll_cons hA
  obtain ⟨v1, vs1, d1, ds1, p1, q1, rfl, rfl, rfl, h1, t1⟩ := trodAll_cons t0
  obtain ⟨v2, vs2, d2, ds2, p2, q2, rfl, rfl, rfl, h2, t2⟩ := trodAll_cons t1
  obtain ⟨rfl, rfl, rfl⟩ := trodAll_nil t2
  obtain rfl : args = #[v0, v1, v2] := by cases args; simp_all
  obtain ⟨rfl, rfl⟩ := trodVars_none hV
  have k0 : Reads enc W 37 v0 d0 p0 := h0
  have lt0 : ∀ x ∈ p0, x.block < W.heap.size := by obtain ⟨m, hm⟩ := k0; exact DataW.trod_lt m _ _ _ hm
  obtain ⟨n0, rfl, w0⟩ := in_u16 (hval 0 37 v0 rfl rfl) k0
  have k1 : Reads enc W 52 v1 d1 p1 := h1
  have lt1 : ∀ x ∈ p1, x.block < W.heap.size := by obtain ⟨m, hm⟩ := k1; exact DataW.trod_lt m _ _ _ hm
  obtain ⟨A1, m1, c1, l1, rfl, r1, wc1, w1⟩ := in_bytes (hval 1 52 v1 rfl rfl) k1
  have k2 : Reads enc W 52 v2 d2 p2 := h2
  have lt2 : ∀ x ∈ p2, x.block < W.heap.size := by obtain ⟨m, hm⟩ := k2; exact DataW.trod_lt m _ _ _ hm
  obtain ⟨A2, m2, c2, l2, rfl, r2, wc2, w2⟩ := in_bytes (hval 2 52 v2 rfl rfl) k2
  clear hA0 hval0
  refine (walk n0 A1 m1 c1 l1 A2 m2 c2 l2 W w0 r1 wc1 w1 r2 wc2 w2).mono fun e W' ⟨he, bel⟩ => ?_
  subst he
  exact ⟨_, rfl, _, _, _, [], _, [], hW', trodAll_mk1 (shut_bool Try.underlying4 _), (trodAll_cons_mk (Below.trod laidOut (by kernel_rfl) (of_decide_eq_true (by kernel_rfl)) k0 bel lt0) (trodAll_cons_mk (Below.trod laidOut (by kernel_rfl) (of_decide_eq_true (by kernel_rfl)) k1 bel lt1) (trodAll_cons_mk (Below.trod laidOut (by kernel_rfl) (of_decide_eq_true (by kernel_rfl)) k2 bel lt2) trodAll_mk0))), rfl, bel.frame _, fun h => by cases h⟩
theorem over : Rows.spaceOnceRow.holds Try.pinned (OpenSpec.ofChange Rows.spaceOnceSpec) :=
  OpenClaim.holds_of_wide 5 Try.f5 rfl rfl rfl rfl rfl rfl rfl ⟨rfl, rfl, rfl, rfl, rfl⟩ rfl rfl rfl rfl rfl (by kernel_rfl) Try.func5 (by kernel_rfl)
    (of_decide_eq_true (by kernel_rfl)) (by unfold Func.isWrapper; first | (rw [if_pos (by decide +kernel)]; kernel_rfl) | (rw [if_neg (by decide +kernel)]; exact ⟨rfl, rfl⟩))
    (fun os started H enc _ => lifted os started H enc)
theorem proved : Rows.SpaceOnceSaid := over
end Go.Proofs.Ytaaodhnenaoheaa.spaceOnce
