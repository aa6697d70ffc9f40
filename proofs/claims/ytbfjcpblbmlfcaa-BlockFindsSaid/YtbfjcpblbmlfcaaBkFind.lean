/- block.Find: the closure that Search is handed. -/
import Derived.Test.YtbfjcpblbmlfcaaBkSearch
import Derived.Deep.Cut
namespace Go.Proofs.Ytbfjcpblbmlfcaa
open Go.RowKit
/-- The cells of what is asked for. -/
def wantC (key : ByteArray) (seq : Int) : List Value := [.string key, .int .i64 seq, .bool false, .slice none 0 0]
set_option maxRecDepth 100000 in
theorem enter_find1 (args : Array Value) (w : World) : (callFunc 34 args).run Try.prog w = .ok (.enter 34 args) w := run_enter Try.func34 (by kernel_rfl) (by kernel_rfl) args w
set_option maxRecDepth 100000 in
set_option maxHeartbeats 4000000 in
theorem find1_any (b g i n cap : Nat) (B : Option Addr) (es : List (Bk.En × Bk.Sl)) (p : Bk.En × Bk.Sl) (key : ByteArray) (seq : Int) (w : World) (hb : Holds w b [.slice B n cap]) (hg : Holds w g (wantC key seq)) (hr : RdE w B n es) (hp : es[i * 8]? = some p) (hi : i ≤ 1000000) :
    Calls Try.prog 34 #[.int .i64 (i : Int), .pointer (some ⟨b, 0, none⟩), .pointer (some ⟨g, 0, none⟩)] w fun e w' => e = .returned (.bool (decide (0 ≤ Bk.cmp p.1 (Bk.want key seq)))) ∧ Below w.heap.size w w' := by
  have hin : i * 8 < n := by rw [← hr.1]; exact (List.getElem?_eq_some_iff.1 hp).1
  have hini : (i : Int) * 8 < (n : Int) := by omega
  obtain ⟨a, o, rfl, ha, hcell⟩ := hr.at_ hp
  have hcm := fun wx => compare_any p (Bk.want key seq, none, 0, 0) wx
  generalize hz : Bk.cmp p.1 (Bk.want key seq) = z
  obtain ⟨⟨pk, ps, pd, pv⟩, V, vn, vc⟩ := p
  have hcm2 : ∀ wx : World, Calls Try.prog 35 #[.agg #[.string pk, .int .i64 ps, .bool pd, .slice V vn vc], .agg #[.string key, .int .i64 seq, .bool false, .slice none 0 0]] wx fun e w' => e = .returned (.int .i64 z) ∧ Below wx.heap.size wx w' := fun wx => hz ▸ hcm wx
  have hw1 : i * 8 = 8 * i := by omega
  have hcx : ∀ v, Below w.heap.size w v → v.cell? ⟨b, 0, none⟩ = some (.slice (some ⟨a, o, none⟩) n cap) ∧ v.cell? ⟨a, o + i * 8 * 4, none⟩ = some (.string pk) ∧ v.cell? ⟨a, o + i * 8 * 4 + 1, none⟩ = some (.int .i64 ps) ∧ v.cell? ⟨a, o + i * 8 * 4 + 2, none⟩ = some (.bool pd) ∧ v.cell? ⟨a, o + i * 8 * 4 + 3, none⟩ = some (.slice V vn vc) := fun v hv => ⟨(hb.below hv).at_ 0 rfl, (hv.cell ha).trans (hcell 0 _ rfl), (hv.cell ha).trans (hcell 1 _ rfl), (hv.cell ha).trans (hcell 2 _ rfl), (hv.cell ha).trans (hcell 3 _ rfl)⟩
  have hcy : ∀ v, Below w.heap.size w v → v.cell? ⟨g, 0, none⟩ = some (.string key) ∧ v.cell? ⟨g, 1, none⟩ = some (.int .i64 seq) ∧ v.cell? ⟨g, 2, none⟩ = some (.bool false) ∧ v.cell? ⟨g, 3, none⟩ = some (.slice none 0 0) := fun v hv => ⟨(hg.below hv).at_ 0 rfl, (hg.below hv).at_ 1 rfl, (hg.below hv).at_ 2 rfl, (hg.below hv).at_ 3 rfl⟩
  have HCx := Lib.hid hcx
  have HCy := Lib.hid hcy
  have HC := Lib.hid hcm2
  have HBd0 := Lib.hid ((Below.refl w.heap.size w).drew)
  clear hcx hcy hcm hcm2 hcell hb hg hr hp ha hz hw1
  have e8 : (8 * i : Nat) = i * 8 := by omega
  go_enter Try.func34, Try.ntmps34
  go_wp2
  refine region_class (fun w' => Below w.heap.size w w') (by kernel_rfl) (by kernel_rfl) HBd0.out ?_
  repeat (go_big_quiet_step ((first | (intro _; with_reducible rfl) | (intro hq; exact calls_class hq (HC.out _)) | (intro hq; obtain ⟨e0, e1, e2, e3, e4⟩ := HCx.out _ hq; simp [e0, e1, e2, e3, e4, Result.andThen]; with_reducible rfl) | (intro hq; obtain ⟨e0, e1, e2, e3⟩ := HCy.out _ hq; simp [e0, e1, e2, e3, Result.andThen]; with_reducible rfl))))
  refine wpQuiet_nil ?_
  intro v9 hv9
  go_wp2
  go_ret
  exact ⟨rfl, hv9⟩
namespace Bk
def zeroE : En × Sl := (⟨⟨#[]⟩, 0, false, []⟩, none, 0, 0)
/-- Is so many-th restart not ahead of what is asked for? -/
def past (es : List (En × Sl)) (key : ByteArray) (seq : Int) (i : Nat) : Bool := match es[i * 8]? with
  | some p => decide (0 ≤ cmp p.1 (want key seq))
  | none => true
/-- What Find tells of bytes. -/
def found (l : List Nat) (key : ByteArray) (seq : Int) (q : En × Sl) (t : Bool) (r : Int) : Prop :=
  (∃ es, good l es ∧ r = 0 ∧ ((t = true ∧ find (es.map fun z => z.1) key seq = some q.1) ∨ (t = false ∧ q = zeroE ∧ find (es.map fun z => z.1) key seq = none))) ∨ ((∀ es, ¬ good l es) ∧ r = 120 ∧ t = false ∧ q = zeroE)
theorem zero_at (w : World) : At w zeroE := ⟨Rd.nil _ _, Nat.le_refl 0, by decide, by decide, by decide, by decide⟩
end Bk
theorem Holds.set4 {w : World} {b : Nat} {x y z u : Value} (k : Holds w b [x, y, z, u]) (x' y' z' u' : Value) : Holds ((((w.setCell ⟨b, 0, none⟩ x').setCell ⟨b, 1, none⟩ y').setCell ⟨b, 2, none⟩ z').setCell ⟨b, 3, none⟩ u') b [x', y', z', u'] :=
  (((k.set 0 x' (by simp)).set 1 y' (by simp)).set 2 z' (by simp)).set 3 u' (by simp)
theorem below_set4 {B : Nat} {z w : World} (h : Below B z w) (b : Nat) (x y v u : Value) (hb : B ≤ b) : Below B z ((((w.setCell ⟨b, 0, none⟩ x).setCell ⟨b, 1, none⟩ y).setCell ⟨b, 2, none⟩ v).setCell ⟨b, 3, none⟩ u) :=
  below_set (below_set (below_set (below_set h _ _ hb) _ _ hb) _ _ hb) _ _ hb
theorem Bk.At.set4 {w : World} {p : Bk.En × Bk.Sl} (h : Bk.At w p) (b : Nat) (x y v u : Value) (hne : 0 < p.2.2.1 → ∀ g o, p.2.1 = some ⟨g, o, none⟩ → b < g) : Bk.At ((((w.setCell ⟨b, 0, none⟩ x).setCell ⟨b, 1, none⟩ y).setCell ⟨b, 2, none⟩ v).setCell ⟨b, 3, none⟩ u) p := by
  have hne2 : 0 < p.2.2.1 → ∀ g o, p.2.1 = some ⟨g, o, none⟩ → some b ≠ some g := fun h1 g o e e2 => by have := hne h1 g o e; injection e2 with e2; omega
  exact (((h.grown (grown_setCell _ ⟨b, 0, none⟩ x) hne2).grown (grown_setCell _ ⟨b, 1, none⟩ y) hne2).grown (grown_setCell _ ⟨b, 2, none⟩ v) hne2).grown (grown_setCell _ ⟨b, 3, none⟩ u) hne2
namespace Bk
theorem other_key {key : ByteArray} {seq : Int} {e : En} (h : ¬ e.key = key) : hit key seq e = false := by
  unfold hit
  rw [decide_eq_false h, Bool.false_and]
theorem found_none {l : List Nat} {es : List (En × Sl)} {key : ByteArray} {seq : Int} (hg : good l es) (h : ∀ (i : Nat) (e : En × Sl), es[i]? = some e → hit key seq e.1 = false) : found l key seq zeroE false 0 :=
  .inl ⟨es, hg, rfl, .inr ⟨rfl, rfl, find_none_of fun i e he => by
    rw [List.getElem?_map] at he
    rcases hx : es[i]? with _ | x
    · rw [hx] at he; cases he
    · rw [hx] at he
      injection he with he
      subst he
      exact h i x hx⟩⟩
theorem found_some {l : List Nat} {es : List (En × Sl)} {key : ByteArray} {seq : Int} {k : Nat} {q : En × Sl} (hg : good l es) (hq : es[k]? = some q) (hh : hit key seq q.1 = true) (h : ∀ (i : Nat) (e : En × Sl), i < k → es[i]? = some e → hit key seq e.1 = false) : found l key seq q true 0 :=
  .inl ⟨es, hg, rfl, .inl ⟨rfl, find_some_of (k := k) (by rw [List.getElem?_map, hq]; rfl) hh fun i e hi he => by
    rw [List.getElem?_map] at he
    rcases hx : es[i]? with _ | x
    · rw [hx] at he; cases he
    · rw [hx] at he
      injection he with he
      subst he
      exact h i x hi hx⟩⟩
end Bk
def GivesFind (w : World) (l : List Nat) (key : ByteArray) (seq : Int) (e : Ending) (w' : World) : Prop :=
  ∃ (q : Bk.En × Bk.Sl) (t : Bool) (r : Int), e = .returned (.tuple #[.agg (Bk.cells q).toArray, .bool t, .int .i64 r]) ∧ Bk.At w' q ∧ Below w.heap.size w w' ∧ Bk.found l key seq q t r
set_option maxRecDepth 100000 in
set_option maxHeartbeats 8000000 in
theorem find_any (A : Option Addr) (n c : Nat) (l : List Nat) (key : ByteArray) (seq : Int) (w : World) (hl : Rd w A n l) (hc : n ≤ c) (hn : n ≤ 1000000) :
    Calls Try.prog 16 #[.slice A n c, .string key, .int .i64 seq] w (GivesFind w l key seq) := by
  have k0 := Holds.new w #[.string ⟨#[]⟩, .int .i64 0, .bool false, .slice none 0 0] 37
  have hb0 : Below w.heap.size w (w.alloc (.cells #[Value.string ⟨#[]⟩, .int .i64 0, .bool false, .slice none 0 0] 37)) := (Below.refl _ _).alloc (Nat.le_refl _) _
  have K0 := Lib.hid k0
  have HB0 := Lib.hid hb0
  have HL := Lib.hid (hl.below hb0)
  clear k0 hb0 hl
  go_enter Try.func16, Try.ntmps16
  go_wp2_with fail
  generalize (w.alloc (.cells #[Value.string ⟨#[]⟩, .int .i64 0, .bool false, .slice none 0 0] 37)) = w1 at *
  have hs1 := K0.out.1
  refine (decode_any A n c l w1 HL.out hc hn).mono ?_
  rintro e v1 ⟨hb1, hg | ⟨hg, rfl⟩⟩
  · obtain ⟨B, m, cap, es, hgood, rfl, hE⟩ := hg
    have hm : m ≤ 64 := by rw [← hE.len]; exact hgood.2.1.2.2
    have hm1 : 1 ≤ m := by rw [← hE.len]; exact hgood.2.1.2.1
    have k1 := ((K0.out.below hb1).alloc (.cells #[Value.slice B m cap] 22)).alloc (.cells #[.string key, .int .i64 seq, .bool false, .slice none 0 0] 37)
    have j1 := (Holds.new v1 #[Value.slice B m cap] 22).alloc (.cells #[.string key, .int .i64 seq, .bool false, .slice none 0 0] 37)
    have i1 := Holds.new (v1.alloc (.cells #[Value.slice B m cap] 22)) #[.string key, .int .i64 seq, .bool false, .slice none 0 0] 37
    rw [show (v1.alloc (.cells #[Value.slice B m cap] 22)).heap.size = v1.heap.size + 1 by simp] at i1
    have e1 := (hE.rde.below ((Below.refl _ _).alloc (Nat.le_refl _) (.cells #[Value.slice B m cap] 22))).below ((Below.refl _ _).alloc (Nat.le_refl _) (.cells #[.string key, .int .i64 seq, .bool false, .slice none 0 0] 37))
    have hb2 := ((hb1.alloc hb1.size (.cells #[Value.slice B m cap] 22)).alloc (by have := hb1.size; simp; omega) (.cells #[.string key, .int .i64 seq, .bool false, .slice none 0 0] 37))
    have K1 := Lib.hid k1
    have J1 := Lib.hid j1
    have I1 := Lib.hid i1
    have E1 := Lib.hid e1
    have HB1 := Lib.hid (HB0.out.trans (hb2.mono (by omega)))
    have Hg := Lib.hid hgood
    have Hfit := Lib.hid hE.fits
    have HAp := Lib.hid (show ∀ q ∈ es, 0 < q.2.2.1 → ∀ g o, q.2.1 = some ⟨g, o, none⟩ → w.heap.size < g from fun q hq h0 g o e => Nat.lt_of_lt_of_le hs1 ((hE.vals q hq).2 h0 g o e).1)
    have q0 := j1.at_ 0 rfl
    clear k1 j1 i1 e1 hb1 hb2 hE hgood
    go_wp2_with fail
    have hruns : ((m : Int) + 8 - 1) / 8 = (((m + 7) / 8 : Nat) : Int) := by omega
    rw [hruns]
    have hR1 : (m + 7) / 8 * 8 < m + 8 := by omega
    clear hruns
    generalize (m + 7) / 8 = R at *
    have hbl : v1.heap.size + 2 = ((v1.alloc (.cells #[Value.slice B m cap] 22)).alloc (.cells #[.string key, .int .i64 seq, .bool false, .slice none 0 0] 37)).heap.size := by simp
    generalize v1.heap.size = bl at *
    generalize ((v1.alloc (.cells #[Value.slice B m cap] 22)).alloc (.cells #[.string key, .int .i64 seq, .bool false, .slice none 0 0] 37)) = W at *
    refine (search_any R (Bk.past es key seq) 34 #[.pointer (some ⟨bl, 0, none⟩), .pointer (some ⟨bl + 1, 0, none⟩)] W (by omega) (fun i wx hi hbx => ?_) enter_find1).mono ?_
    · obtain ⟨p, hp⟩ : ∃ p, es[i * 8]? = some p := ⟨_, List.getElem?_eq_getElem (by rw [E1.out.1]; omega)⟩
      have hf := find1_any bl (bl + 1) i m cap B es p key seq wx (J1.out.below hbx) (I1.out.below hbx) (E1.out.below hbx) hp (by omega)
      rw [show Bk.past es key seq i = decide (0 ≤ Bk.cmp p.1 (Bk.want key seq)) by unfold Bk.past; rw [hp]]
      exact hf
    · rintro e w2 ⟨k, hk, rfl, hpk, hb2⟩
      obtain ⟨p0, hp0⟩ : ∃ p, es[0]? = some p := ⟨_, List.getElem?_eq_getElem (by rw [E1.out.1]; omega)⟩
      obtain ⟨a, o, rfl, ha, -⟩ := E1.out.at_ hp0
      have q1 := (J1.out.below hb2).at_ 0 rfl
      clear q0
      have hcap : m ≤ cap := Hfit.out
      go_upto_region 7 with fail
      go_cut [41, 42, 43] from 36 to 43 (fun s41 s42 s43 wx => ∃ s : Nat, s ≤ m ∧ s41 = .slice (some ⟨a, o + s * 4, none⟩) (m - s) (cap - s) ∧ s42 = .int .i64 ((m - s : Nat) : Int) ∧ s43 = .int .i64 0 ∧ Hid (∀ (i : Nat) (e : Bk.En × Bk.Sl), i < s → es[i]? = some e → Bk.cmp e.1 (Bk.want key seq) < 0) ∧ wx = w2)
      case first =>
        by_cases hk0 : k = 0
        · subst hk0
          go_wp2_with fail
          all_goals
            go_meet
            case rel => exact ⟨0, by omega, by simp, by simp, rfl, Lib.hid (fun i e h => by omega), rfl⟩
        · obtain ⟨j, rfl⟩ : ∃ j, k = j + 1 := ⟨k - 1, by omega⟩
          have hjm : j * 8 < m := by omega
          have hjmi : (j : Int) * 8 ≤ (m : Int) := by omega
          have hj1 : ((j + 1 : Nat) : Int) - 1 = (j : Int) := by omega
          have hA : ∀ (i : Nat) (e : Bk.En × Bk.Sl), i < j * 8 → es[i]? = some e → Bk.cmp e.1 (Bk.want key seq) < 0 := fun i e hi he => by
            obtain ⟨p, hp⟩ : ∃ p, es[j * 8]? = some p := ⟨_, List.getElem?_eq_getElem (by rw [E1.out.1]; omega)⟩
            have h1 := hpk (by omega)
            rw [show j + 1 - 1 = j by omega] at h1
            unfold Bk.past at h1
            rw [hp] at h1
            simp only [decide_eq_false_iff_not] at h1
            exact Bk.cmp_trans (Bk.fine_lt Hg.out.2.1 hi he hp) (by omega)
          have HA := Lib.hid hA
          clear hA hpk hk0
          go_wp2_with fail
          all_goals
            go_meet
            case rel => exact ⟨j * 8, by omega, by go_num, by go_num, rfl, HA, rfl⟩
      case rest =>
        obtain ⟨s, hs, rfl, rfl, rfl, HA, rfl⟩ := hcut
        have HW := Lib.hid hb2
        clear hpk q1 hp0 hb2
        go_wp2
        go_loopw [43] (fun x wr => ∃ i : Nat, i ≤ m - s ∧ x = .int .i64 (i : Int) ∧ Hid (∀ (i' : Nat) (e : Bk.En × Bk.Sl), i' < s + i → es[i']? = some e → Bk.cmp e.1 (Bk.want key seq) < 0) ∧ Hid (Below W.heap.size W wr)) (fun x _ => (m - s) - (intOf x).toNat)
        case atStart => exact ⟨0, by omega, rfl, HA, HW⟩
        case round =>
          rename_i wr hrel
          obtain ⟨i, hi, rfl, HI, HB⟩ := hrel
          by_cases him : i = m - s
          · subst him
            have k2 := K1.out.below HB.out
            have r0 := k2.at_ 0 rfl
            have r1 := k2.at_ 1 rfl
            have r2 := k2.at_ 2 rfl
            have r3 := k2.at_ 3 rfl
            have z0 := k2.2.2 0
            have z1 := k2.2.2 1
            have z2 := k2.2.2 2
            have z3 := k2.2.2 3
            have K2 := Lib.hid k2
            have HF := Lib.hid (Bk.found_none Hg.out (fun i e he => Bk.not_hit (HI.out i e (by have := (List.getElem?_eq_some_iff.1 he).1; rw [E1.out.1] at this; omega) he)))
            clear k2
            go_wp2
            have fin := K2.out.set4 (.string ⟨#[]⟩) (.int .i64 0) (.bool false) (.slice none 0 0)
            have c0 := fin.at_ 0 rfl
            have c1 := fin.at_ 1 rfl
            have c2 := fin.at_ 2 rfl
            have c3 := fin.at_ 3 rfl
            refine ⟨rfl, .tuple #[.agg (Bk.cells Bk.zeroE).toArray, .bool false, .int .i64 0], ?_, ?_⟩
            · simp [results, Try.results16, go_sem, c0, c1, c2, c3, Bk.cells, Bk.zeroE]
            · exact ⟨Bk.zeroE, false, 0, rfl, Bk.zero_at _, below_set4 (below_next HB1.out HB.out) _ _ _ _ _ (Nat.le_refl _), HF.out⟩
          · have him2 : i < m - s := by omega
            have himi : (i : Int) < ((m - s : Nat) : Int) := by omega
            obtain ⟨q, hq⟩ : ∃ q, es[s + i]? = some q := ⟨_, List.getElem?_eq_getElem (by rw [E1.out.1]; omega)⟩
            obtain ⟨a2, o2, hA, hal, hcell⟩ := E1.out.at_ hq
            cases hA
            have hat := (E1.out.2.2 q (List.mem_of_getElem? hq)).below HB.out
            have Hap := Lib.hid (HAp.out q (List.mem_of_getElem? hq))
            have Hat := Lib.hid hat
            have hcm := fun wx => compare_any q (Bk.want key seq, none, 0, 0) wx
            have Hz := Lib.hid (show Bk.cmp q.1 (Bk.want key seq) = Bk.cmp q.1 (Bk.want key seq) from rfl)
            generalize hz : Bk.cmp q.1 (Bk.want key seq) = z at hcm
            have HZ := Lib.hid hz
            have Hq := Lib.hid hq
            obtain ⟨⟨qk, qs, qd, qv⟩, V, vn, vc⟩ := q
            have hcm2 : ∀ wx : World, Calls Try.prog 35 #[.agg #[.string qk, .int .i64 qs, .bool qd, .slice V vn vc], .agg #[.string key, .int .i64 seq, .bool false, .slice none 0 0]] wx fun e w' => e = .returned (.int .i64 z) ∧ Below wx.heap.size wx w' := hcm
            have HC := Lib.hid hcm2
            have e0 : wr.cell? ⟨a, o + s * 4 + i * 4, none⟩ = some (.string qk) := by have h := (HB.out.cell hal).trans (hcell 0 _ rfl); rwa [show o + ((s + i) * 4 + 0) = o + s * 4 + i * 4 by omega] at h
            have e1 : wr.cell? ⟨a, o + s * 4 + i * 4 + 1, none⟩ = some (.int .i64 qs) := by have h := (HB.out.cell hal).trans (hcell 1 _ rfl); rwa [show o + ((s + i) * 4 + 1) = o + s * 4 + i * 4 + 1 by omega] at h
            have e2 : wr.cell? ⟨a, o + s * 4 + i * 4 + 2, none⟩ = some (.bool qd) := by have h := (HB.out.cell hal).trans (hcell 2 _ rfl); rwa [show o + ((s + i) * 4 + 2) = o + s * 4 + i * 4 + 2 by omega] at h
            have e3 : wr.cell? ⟨a, o + s * 4 + i * 4 + 3, none⟩ = some (.slice V vn vc) := by have h := (HB.out.cell hal).trans (hcell 3 _ rfl); rwa [show o + ((s + i) * 4 + 3) = o + s * 4 + i * 4 + 3 by omega] at h
            have hbx : Below W.heap.size W (wr.alloc (.cells #[.string qk, .int .i64 qs, .bool qd, .slice V vn vc] 37)) := HB.out.alloc HB.out.size _
            have i2 := I1.out.below hbx
            have f0 := i2.at_ 0 rfl
            have f1 := i2.at_ 1 rfl
            have f2 := i2.at_ 2 rfl
            have f3 := i2.at_ 3 rfl
            have HBx := Lib.hid hbx
            have HBox := Lib.hid (Holds.new wr #[.string qk, .int .i64 qs, .bool qd, .slice V vn vc] 37)
            clear hcm hcm2 hz hq hcell hal hat hbx i2 Hz
            go_wp2_with fail
            generalize (wr.alloc (.cells #[.string qk, .int .i64 qs, .bool qd, .slice V vn vc] 37)) = W3 at *
            clear e0 e1 e2 e3 f0 f1 f2 f3
            refine (HC.out W3).mono ?_
            rintro e w4 ⟨rfl, hb4⟩
            have HB4 := Lib.hid (below_next HBx.out hb4)
            have bx := HBox.out.below hb4
            have g0 := bx.at_ 0 rfl
            have g1 := bx.at_ 1 rfl
            have g2 := bx.at_ 2 rfl
            have g3 := bx.at_ 3 rfl
            have k2 := K1.out.below HB4.out
            have r0 := k2.at_ 0 rfl
            have r1 := k2.at_ 1 rfl
            have r2 := k2.at_ 2 rfl
            have r3 := k2.at_ 3 rfl
            have z0 := k2.2.2 0
            have z1 := k2.2.2 1
            have z2 := k2.2.2 2
            have z3 := k2.2.2 3
            have K2 := Lib.hid k2
            have Hq64 := Lib.hid ((E1.out.2.2 _ (List.mem_of_getElem? Hq.out)).below HB4.out)
            clear bx k2 hb4
            by_cases hz : z < 0
            · have HI2 := Lib.hid (show ∀ (i' : Nat) (e : Bk.En × Bk.Sl), i' < s + (i + 1) → es[i']? = some e → Bk.cmp e.1 (Bk.want key seq) < 0 from fun i' e hi' he => by
                by_cases h2 : i' = s + i
                · subst h2
                  rw [Hq.out] at he
                  injection he with he
                  subst he
                  rw [HZ.out]
                  exact hz
                · exact HI.out i' e (by omega) he)
              go_wp2
              go_roundw
              case rel => exact ⟨i + 1, by omega, by go_num, HI2, HB4⟩
              case measure => simp [intOf]; omega
            · by_cases hkey : qk = key
              · have hb : (qk.toList == key.toList) = true := by rw [hkey]; exact byt_same key
                have hb2 : qk.toList = key.toList := by rw [hkey]
                have HF := Lib.hid (Bk.found_some Hg.out Hq.out (Bk.is_hit (by rw [HZ.out]; exact hz) hkey) (fun i' e hi' he => Bk.not_hit (HI.out i' e hi' he)))
                clear hkey
                go_wp2
                have fin := K2.out.set4 (.string qk) (.int .i64 qs) (.bool qd) (.slice V vn vc)
                have c0 := fin.at_ 0 rfl
                have c1 := fin.at_ 1 rfl
                have c2 := fin.at_ 2 rfl
                have c3 := fin.at_ 3 rfl
                refine ⟨rfl, .tuple #[.agg #[.string qk, .int .i64 qs, .bool qd, .slice V vn vc], .bool true, .int .i64 0], ?_, ?_⟩
                · simp [results, Try.results16, go_sem, c0, c1, c2, c3]
                · exact ⟨_, true, 0, rfl, Hq64.out.set4 _ _ _ _ _ Hap.out, below_set4 (below_next HB1.out HB4.out) _ _ _ _ _ (Nat.le_refl _), HF.out⟩
              · have hb : (qk.toList == key.toList) = false := byt_other hkey
                have hb2 : ¬ qk.toList = key.toList := byt_ne hkey
                have HF := Lib.hid (Bk.found_none Hg.out (fun i' e he => by
                  rcases Nat.lt_trichotomy i' (s + i) with h2 | h2 | h2
                  · exact Bk.not_hit (HI.out i' e h2 he)
                  · subst h2
                    rw [Hq.out] at he
                    injection he with he
                    subst he
                    exact Bk.other_key hkey
                  · exact Bk.no_more (by rw [HZ.out]; exact hz) hkey (Bk.fine_lt Hg.out.2.1 h2 Hq.out he)))
                clear hkey
                go_wp2
                have fin := K2.out.set4 (.string ⟨#[]⟩) (.int .i64 0) (.bool false) (.slice none 0 0)
                have c0 := fin.at_ 0 rfl
                have c1 := fin.at_ 1 rfl
                have c2 := fin.at_ 2 rfl
                have c3 := fin.at_ 3 rfl
                refine ⟨rfl, .tuple #[.agg (Bk.cells Bk.zeroE).toArray, .bool false, .int .i64 0], ?_, ?_⟩
                · simp [results, Try.results16, go_sem, c0, c1, c2, c3, Bk.cells, Bk.zeroE]
                · exact ⟨Bk.zeroE, false, 0, rfl, Bk.zero_at _, below_set4 (below_next HB1.out HB4.out) _ _ _ _ _ (Nat.le_refl _), HF.out⟩
  · have k1 := (K0.out.below hb1).alloc (.cells #[Value.slice none 0 0] 22)
    have q0 := k1.at_ 0 rfl
    have q1 := k1.at_ 1 rfl
    have q2 := k1.at_ 2 rfl
    have q3 := k1.at_ 3 rfl
    have z0 := k1.2.2 0
    have z1 := k1.2.2 1
    have z2 := k1.2.2 2
    have z3 := k1.2.2 3
    have K1 := Lib.hid k1
    have HB1 := Lib.hid (HB0.out.trans ((hb1.mono (by omega)).alloc (o := .cells #[Value.slice none 0 0] 22) (by have := hb1.size; omega)))
    clear k1 hb1
    go_wp2
    have fin := K1.out.set4 (.string ⟨#[]⟩) (.int .i64 0) (.bool false) (.slice none 0 0)
    have c0 := fin.at_ 0 rfl
    have c1 := fin.at_ 1 rfl
    have c2 := fin.at_ 2 rfl
    have c3 := fin.at_ 3 rfl
    refine ⟨rfl, .tuple #[.agg (Bk.cells Bk.zeroE).toArray, .bool false, .int .i64 120], ?_, ?_⟩
    · simp [results, Try.results16, go_sem, c0, c1, c2, c3, Bk.cells, Bk.zeroE]
    · exact ⟨Bk.zeroE, false, 120, rfl, Bk.zero_at _, below_set4 HB1.out _ _ _ _ _ (Nat.le_refl _), .inr ⟨hg, rfl, rfl, rfl⟩⟩
end Go.Proofs.Ytbfjcpblbmlfcaa
