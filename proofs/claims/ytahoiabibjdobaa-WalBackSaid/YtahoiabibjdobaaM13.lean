/- The document's Same of two rows of bytes. A log while groups are added: what WalBack keeps. -/
import Derived.Test.YtahoiabibjdobaaM06
import Derived.Deep.CutBlock
import Derived.Deep.DeepCutAuto
import Derived.BigQuiet
import Derived.Test.YtahoiabibjdobaaWlAwake
import Derived.Test.YtahoiabibjdobaaM12
namespace Go.Proofs.Ytahoiabibjdobaa
open Go.RowKit
set_option linter.unusedVariables false
set_option maxRecDepth 100000 in
set_option maxHeartbeats 4000000 in
theorem rsame9_any (A B : Option Addr) (n m c d : Nat) (L M : List (List Nat)) (w : World) (ha : RdB w A n L) (hb : RdB w B m M) (hn : n ≤ 1000000) (hm : m ≤ 1000000) :
    Calls Try.prog 13 #[.slice A n c, .slice B m d] w fun e w' => e = .returned (.bool (decide (L = M))) ∧ Below w.heap.size w w' := by
  have hl := ha.len
  have hl2 := hb.len
  by_cases hnm : n = m
  · subst hnm
    have hnb : ((n : Int) != (n : Int)) = false := by simp
    have HA := Lib.hid ha
    have HB := Lib.hid hb
    have HL := Lib.hid hl
    have HL2 := Lib.hid hl2
    clear ha hb hl hl2
    go_enter Try.func13, Try.ntmps13
    go_wp2
    go_loopw [5] (fun ii wr => ∃ k : Nat, k ≤ n ∧ ii = .int .i64 (k : Int) ∧ Hid (L.take k = M.take k) ∧ Below w.heap.size w wr) (fun ii _ => n - (intOf ii).toNat)
    case atStart => exact ⟨0, Nat.zero_le _, rfl, Lib.hid rfl, Below.refl _ _⟩
    case round =>
      obtain ⟨k, hk, rfl, heq, hBl⟩ := hrel
      by_cases hkn : k < n
      · obtain ⟨b, o, RB, c2, r, rfl, hb1, hrk, hcell, hrd, hrc, hrm⟩ := (HA.out.below hBl).at_ hkn
        obtain ⟨b', o', RB', c2', r', rfl, hb1', hrk', hcell', hrd', hrc', hrm'⟩ := (HB.out.below hBl).at_ hkn
        have hki : (k : Int) < (n : Int) := by omega
        have hki0 : (0 : Int) ≤ (k : Int) := by omega
        have hca : ∀ v, Below wr.heap.size wr v → v.cell? ⟨b, o + k, none⟩ = some (.slice RB r.length c2) := fun v hv => (hv.cell (p := ⟨b, o + k, none⟩) hb1).trans hcell
        have hca' : ∀ v, Below wr.heap.size wr v → v.cell? ⟨b', o' + k, none⟩ = some (.slice RB' r'.length c2') := fun v hv => (hv.cell (p := ⟨b', o' + k, none⟩) hb1').trans hcell'
        have hs1 : ∀ v : World, Below wr.heap.size wr v → _ := fun v hv => run_str (cap := c2) (hrd.below hv)
        have hs2 : ∀ v : World, Below wr.heap.size wr v → _ := fun v hv => run_str (cap := c2') (hrd'.below hv)
        have h256 := hrd.2.1
        have h256' := hrd'.2.1
        have HCa := Lib.hid hca
        have HCa' := Lib.hid hca'
        have HS1 := Lib.hid hs1
        have HS2 := Lib.hid hs2
        have HBl := Lib.hid hBl
        have Hrk := Lib.hid hrk
        have Hrk' := Lib.hid hrk'
        clear hca hca' hs1 hs2 hBl hrk hrk' hcell hcell' hrd hrd' hb1 hb1'
        go_upto_region 6 with fail
        go_cut [27] from 11 to 27 (fun s27 wx => s27 = .bool (decide (¬ r = r')) ∧ Below w.heap.size w wx)
        case first =>
          by_cases hrr : r = r'
          · subst hrr
            refine region_class (fun w' => Below wr.heap.size wr w') (by kernel_rfl) (by kernel_rfl) ((Below.refl _ _).drew) ?_
            repeat (go_big_quiet_step ((first | (intro _; with_reducible rfl) | (intro hq; simp [HCa.out _ hq, Result.andThen]; with_reducible rfl) | (intro hq; simp [HCa'.out _ hq, Result.andThen]; with_reducible rfl) | (intro hq; simp [HS1.out _ hq, Result.andThen]; with_reducible rfl) | (intro hq; simp [HS2.out _ hq, Result.andThen]; with_reducible rfl))))
            refine wpQuiet_nil ?_
            intro v9 hv9
            go_wp2_with fail
            go_meet
            case rel => exact ⟨by simp, below_next HBl.out hv9⟩
          · have hso := str_other h256 h256' hrr
            have hso2 : (!((str r).toList == (str r').toList)) = true := by rw [hso]; rfl
            refine region_class (fun w' => Below wr.heap.size wr w') (by kernel_rfl) (by kernel_rfl) ((Below.refl _ _).drew) ?_
            repeat (go_big_quiet_step ((first | (intro _; with_reducible rfl) | (intro hq; simp [HCa.out _ hq, Result.andThen]; with_reducible rfl) | (intro hq; simp [HCa'.out _ hq, Result.andThen]; with_reducible rfl) | (intro hq; simp [HS1.out _ hq, Result.andThen]; with_reducible rfl) | (intro hq; simp [HS2.out _ hq, Result.andThen]; with_reducible rfl))))
            refine wpQuiet_nil ?_
            intro v9 hv9
            go_wp2_with fail
            go_meet
            case rel => exact ⟨by simp [hrr], below_next HBl.out hv9⟩
        case rest =>
          obtain ⟨rfl, hB9⟩ := hcut
          by_cases hrr : r = r'
          · have hd : decide (¬ r = r') = false := by simp [hrr]
            rw [hd]
            have hnext : L.take (k + 1) = M.take (k + 1) := by rw [List.take_add_one, List.take_add_one, heq.out, Hrk.out, Hrk'.out, hrr]
            have HNext := Lib.hid hnext
            clear hrr hd hnext
            go_wp2_with fail
            go_roundw
            case rel => exact ⟨k + 1, by omega, by go_num, HNext, hB9⟩
            case measure => simp [intOf]; omega
          · have hd : decide (¬ r = r') = true := by simp [hrr]
            rw [hd]
            have hne : decide (L = M) = false := by
              rw [decide_eq_false_iff_not]
              intro e
              have h1 := Hrk.out
              have h2 := Hrk'.out
              rw [e, h2] at h1
              injection h1 with h1
              exact hrr h1.symm
            have HNe := Lib.hid hne
            clear hrr hd hne
            go_wp2_with fail
            go_ret
            rw [HNe.out]
            exact ⟨rfl, hB9⟩
      · have hkn2 : k = n := by omega
        subst hkn2
        have heq2 := heq.out
        rw [List.take_of_length_le (Nat.le_of_eq HL.out), List.take_of_length_le (Nat.le_of_eq HL2.out)] at heq2
        have hd : decide (L = M) = true := by simp [heq2]
        have HD := Lib.hid hd
        have HBl := Lib.hid hBl
        clear heq2 hd hBl heq
        go_wp2
        go_ret
        rw [HD.out]
        exact ⟨rfl, HBl.out⟩
  · have hnb : ((n : Int) != (m : Int)) = true := by rw [bne_iff_ne]; omega
    have hd : decide (L = M) = false := by
      rw [decide_eq_false_iff_not]; intro e; rw [e] at hl; omega
    rw [hd]
    clear ha hb hl hl2 hd hnm
    go_enter Try.func13, Try.ntmps13
    go_wp2
    go_ret
    exact ⟨rfl, Below.refl _ _⟩
end Go.Proofs.Ytahoiabibjdobaa
namespace Go.Proofs.Ytahoiabibjdobaa
open Go.RowKit Fi Fr
set_option linter.unusedVariables false
theorem At.grown {w0 v v' : World} {d lb n cp kind E rc c : Nat} {ad : Addr} {e : Int} {Ps : List (List Nat)} {lab : Nat → Tag} {st : Dk.St} {U : List Nat} {row : Option Nat} (h : At w0 v d lb ad n cp kind E e Ps rc c lab st U) (hg : v.grownBy v' row) (hr : ∀ g, row = some g → lab g = .no ∧ g ≠ lb ∧ g ≠ ad.block ∧ w0.heap.size ≤ g) : At w0 v' d lb ad n cp kind E e Ps rc c lab st U :=
  ⟨⟨h.ds.below.grown hg h.ds.below.size (fun g e => (hr g e).2.2.2), h.ds.disk.keep hg.size (fun k hk => by
      have hlt := h.ds.disk.old k hk
      exact hg.block k hlt (fun e => hk (hr k e.symm).1)), h.ds.labs, fun u hu => ⟨(h.ds.un u hu).1, Nat.lt_of_lt_of_le (h.ds.un u hu).2 hg.size⟩⟩,
    h.box.grown hg (fun e => (hr lb e.symm).2.1 rfl), h.rt.grownC hg (fun b o e e2 => by
      have h3 := (hr b e2).2.2.1
      injection e with e
      exact h3 (by rw [e])), h.lg, h.low, h.ne, h.old⟩
def blkOf (A : Option Addr) : Option Nat := A.map (·.block)
theorem ownBlock_eq (A : Option Addr) (n c : Nat) : (Value.slice A n c).ownBlock = blkOf A := by cases A <;> rfl
/-- The records that were told: their row, beside the log. -/
structure Bk (w wr : World) (d lb : Nat) (ad : Addr) (cp : Nat) (Ps : List (List Nat)) (c : Nat) (lab : Nat → Tag) (st : Dk.St) (A : Option Addr) (k cap : Nat) (L : List (List Nat)) : Prop where
  at_ : At w wr d lb ad 3 cp 4 2 2 Ps L.length c lab st (match blkOf A with | none => [] | some g => [g])
  pall : Fg.pall Ps ([], none) = some (L, none)
  row : ∃ vs, OwnV wr w.heap.size 39 A k cap vs ∧ Items w (fun b => b < w.heap.size) vs L
  off : ∀ g, blkOf A = some g → g ≠ lb ∧ g ≠ ad.block
theorem Bk.len {w wr : World} {d lb cp c k cap : Nat} {ad : Addr} {Ps L : List (List Nat)} {lab : Nat → Tag} {st : Dk.St} {A : Option Addr} (h : Bk w wr d lb ad cp Ps c lab st A k cap L) : L.length = k := by
  obtain ⟨vs, h1, h2⟩ := h.row
  rw [← h2.1]; exact h1.1
theorem Bk.next {w wr v : World} {d lb cp c k cap : Nat} {ad : Addr} {Ps L : List (List Nat)} {lab : Nat → Tag} {st : Dk.St} {A : Option Addr} (h : Bk w wr d lb ad cp Ps c lab st A k cap L) (hb : Below wr.heap.size wr v) : Bk w v d lb ad cp Ps c lab st A k cap L := by
  obtain ⟨vs, h1, h2⟩ := h.row
  exact ⟨h.at_.next hb, h.pall, ⟨vs, h1.below hb, h2⟩, h.off⟩
theorem Bk.rd {w wr : World} {d lb cp c k cap : Nat} {ad : Addr} {Ps L : List (List Nat)} {lab : Nat → Tag} {st : Dk.St} {A : Option Addr} (h : Bk w wr d lb ad cp Ps c lab st A k cap L) : RdB wr A k L := by
  obtain ⟨vs, h1, h2⟩ := h.row
  exact ⟨vs, h1.rd, (h2.below h.at_.ds.below).imp fun _ _ _ => trivial⟩
theorem Bk.more {w wr : World} {d lb cp c k cap : Nat} {ad : Addr} {Ps L : List (List Nat)} {lab : Nat → Tag} {st : Dk.St} {A : Option Addr} (h : Bk w wr d lb ad cp Ps c lab st A k cap L) : Bk w wr d lb ad cp Ps (c + 1) lab st A k cap L := ⟨h.at_.more, h.pall, h.row, h.off⟩
theorem RdX.vals {w : World} {X : Nat → Prop} {A : Option Addr} {n : Nat} {L : List (List Nat)} (h : RdX w X A n L) : ∃ vs, RdV w A n vs ∧ Items w X vs L ∧ ∀ u ∈ vs, u.oneCell' = true := by
  obtain ⟨vs, h1, h2⟩ := h
  refine ⟨vs, h1, h2, fun u hu => ?_⟩
  obtain ⟨j, hj⟩ := List.getElem?_of_mem hu
  have hl : j < L.length := by rw [← h2.1]; exact (List.getElem?_eq_some_iff.1 hj).1
  obtain ⟨B, c, rfl, _⟩ := h2.2 j u _ hj (List.getElem?_eq_getElem hl)
  rfl
theorem Wl.fits_lens {n : Nat} {tk : Int} {g : List (List Nat)} (h : ∀ r ∈ g, r.length ≤ 400) (hl : g.length ≤ 6) : Wl.fits n tk (lens g) = decide (((Fg.cut g).length : Int) ≤ 8 * (n : Int) - tk) := by
  unfold Wl.fits
  rw [Fg.need_lens, Fg.cutOut_fit (fun r hr => by have := h r hr; omega) (by omega)]
  simp
theorem Kp.rdv {lab : Nat → Tag} {lb n : Nat} {w v : World} {A : Option Addr} {vs : List Value} (h : Kp lab lb w v) (k : RdV w A n vs) (hl : ∀ b o, A = some ⟨b, o, none⟩ → lab b = .no ∧ b ≠ lb) : RdV v A n vs := by
  refine ⟨k.1, fun hn => ?_⟩
  obtain ⟨b, o, rfl, hb, hc⟩ := k.2 hn
  obtain ⟨h1, h2⟩ := hl b o rfl
  exact ⟨b, o, rfl, Nat.lt_of_lt_of_le hb h.1, fun j x hx => (World.cell?_of_block (a := ⟨b, o + j, none⟩) (h.2 b hb h1 h2)).trans (hc j x hx)⟩
theorem Items.back {w v : World} {vs : List Value} {L : List (List Nat)} (h : Items v (fun b => b < w.heap.size) vs L) (hb : Below w.heap.size w v) : Items w (fun b => b < w.heap.size) vs L := by
  refine ⟨h.1, fun j u l e1 e2 => ?_⟩
  obtain ⟨B, c, rfl, hr, hc, hm, hx⟩ := h.2 j u l e1 e2
  refine ⟨B, c, rfl, ⟨hr.1, hr.2.1, fun hn => ?_⟩, hc, hm, hx⟩
  obtain ⟨b, o, rfl, _, hcc⟩ := hr.2.2 hn
  have hlt : b < w.heap.size := hx b o rfl hn
  exact ⟨b, o, rfl, hlt, fun j x hj => (hb.cell (p := ⟨b, o + j, none⟩) hlt).symm.trans (hcc j x hj)⟩
theorem Fg.pall_more {Ps L g : List (List Nat)} (h : Fg.pall Ps ([], none) = some (L, none)) (hg : ∀ r ∈ g, r.length ≤ 8192) : Fg.pall (Ps ++ Fg.cut g) ([], none) = some (L ++ g, none) := by
  rw [Fg.pall_append, h]
  show Fg.pall (Fg.cut g) (L, none) = _
  rw [Fg.pall_cut hg]
  by_cases h0 : g = []
  · rw [if_pos h0]
  · rw [if_neg h0]
/-- Behind Add the row is as it was. -/
theorem Bk.kept {w wr v : World} {d lb cp c k cap : Nat} {ad : Addr} {Ps L : List (List Nat)} {lab : Nat → Tag} {st : Dk.St} {A : Option Addr} (h : Bk w wr d lb ad cp Ps c lab st A k cap L) (hK : Kp lab lb wr v) : ∃ vs, OwnV v w.heap.size 39 A k cap vs ∧ Items w (fun b => b < w.heap.size) vs L := by
  obtain ⟨vs, h1, h2⟩ := h.row
  refine ⟨vs, hK.ownv h1 (fun b o e => ⟨(h.at_.ds.un b ?_).1, (h.off b (by rw [e]; rfl)).1⟩), h2⟩
  rw [e]
  simp [blkOf]
/-- Records are put behind the others. -/
theorem Bk.app {w v v' : World} {d lb cp c k cap m cap' rc : Nat} {ad : Addr} {Ps L g : List (List Nat)} {lab : Nat → Tag} {st : Dk.St} {A A' : Option Addr} {vs us : List Value} (hA : At w v d lb ad 3 cp 4 2 2 Ps rc c lab st (match blkOf A with | none => [] | some g => [g])) (hoff : ∀ g, blkOf A = some g → g ≠ lb ∧ g ≠ ad.block) (hown : OwnV v w.heap.size 39 A k cap vs) (hL : Items w (fun b => b < w.heap.size) vs L) (hg : GrewV v v' w.heap.size 39 A A' k cap (k + m) cap' (vs ++ us)) (hus : Items w (fun b => b < w.heap.size) us g) (hp : Fg.pall Ps ([], none) = some (L ++ g, none)) (hrc : rc = (L ++ g).length) :
    Bk w v' d lb ad cp Ps c lab st A' (k + m) cap' (L ++ g) := by
  subst hrc
  have hro : ∀ g', (Value.slice A k cap).ownBlock = some g' → lab g' = .no ∧ g' ≠ lb ∧ g' ≠ ad.block ∧ w.heap.size ≤ g' := fun g' e => by
    have e2 : blkOf A = some g' := by rw [← ownBlock_eq A k cap]; exact e
    obtain ⟨h1, h2⟩ := hoff g' e2
    exact ⟨(hA.ds.un g' (by rw [e2]; simp)).1, h1, h2, (hown.blk g' e).1⟩
  have hA2 := hA.grown hg.grew hro
  have hitems : Items w (fun b => b < w.heap.size) (vs ++ us) (L ++ g) := by
    refine ⟨by simp [hL.1, hus.1], fun j x l e1 e2 => ?_⟩
    by_cases hj : j < vs.length
    · rw [List.getElem?_append_left hj] at e1
      rw [List.getElem?_append_left (by rw [← hL.1]; exact hj)] at e2
      exact hL.2 j _ _ e1 e2
    · rw [List.getElem?_append_right (by omega)] at e1
      rw [List.getElem?_append_right (by rw [← hL.1]; omega), ← hL.1] at e2
      exact hus.2 _ _ _ e1 e2
  rcases hg.blk with hb | hb
  · rw [ownBlock_eq, ownBlock_eq] at hb
    exact ⟨by rw [hb]; exact hA2, hp, ⟨_, hg.own, hitems⟩, by rw [hb]; exact hoff⟩
  · have hb' := hb
    rw [ownBlock_eq] at hb
    have hlt := (hg.own.blk v.heap.size hb').2
    refine ⟨by rw [hb]; exact hA2.only.also ⟨hA.ds.disk.new_ (Nat.le_refl _), hlt⟩, hp, ⟨_, hg.own, hitems⟩, fun g' e => ?_⟩
    rw [hb] at e
    injection e with e
    have h1 := hA.box.1
    have h2 := (hA.ds.un ad.block (by simp)).2
    omega
end Go.Proofs.Ytahoiabibjdobaa
