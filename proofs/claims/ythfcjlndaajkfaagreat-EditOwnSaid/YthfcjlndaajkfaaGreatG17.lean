/- Edits' bytes, plain; bytes that a call puts behind others. edit.putPlace: a place's bytes behind others. -/
import Derived.Test.YthfcjlndaajkfaaGreatG16
import Derived.Test.YthfcjlndaajkfaaGreatN08
namespace Go.Proofs.YthfcjlndaajkfaaGreat
open Go.RowKit
namespace Ed
def nB (n : Int) : List Nat := Cd.num n.toNat
def nsB (l : List Int) : List Nat := l.flatMap nB
def plB (p : Pl) : List Nat := nsB [p.id, p.ep, (p.ps.length : Int)] ++ p.ps.flatMap fun x => nsB [x.1, x.2]
def taB (t : Ta) : List Nat := plB t.p ++ nsB [t.sz, t.lv, t.ct] ++ Cd.text t.lo ++ Cd.text t.hi ++ nsB [t.tp]
/-- What an edit's kind names. -/
def etB (e : Et) : List Nat :=
  if e.kd = 4 then nsB [e.id] ++ nsB [e.n]
  else if e.kd = 1 then nsB [e.n]
  else if e.kd = 2 then nsB [e.n]
  else if e.kd = 3 then plB e.p
  else if e.kd = 6 then taB e.t
  else nsB [e.id]
def edB (e : Et) : List Nat := e.kd.toNat :: etB e
/-- Edits' bytes. -/
def bytes (l : List Et) : List Nat := nB (l.length : Int) ++ l.flatMap edB
theorem numF_len (f n : Nat) : (Cd.numF f n).length ≤ f + 1 := by
  induction f generalizing n with
  | zero => exact Nat.le_refl _
  | succ f ih =>
    by_cases h : n < 128
    · rw [Cd.numF_small h]; simp
    · rw [Cd.numF_big h, List.length_cons]; have := ih (n / 128); omega
theorem nB_len (n : Int) : (nB n).length ≤ 11 := numF_len 10 _
theorem nsB_len (l : List Int) : (nsB l).length ≤ l.length * 11 := by
  induction l with
  | nil => simp [nsB]
  | cons x r ih =>
    have e : nsB (x :: r) = nB x ++ nsB r := by unfold nsB; rw [List.flatMap_cons]
    have := nB_len x
    rw [e, List.length_append, List.length_cons]
    omega
theorem nsB_snoc {l : List Int} {k : Nat} {x : Int} (h : l[k]? = some x) : nsB (l.take (k + 1)) = nsB (l.take k) ++ nB x := by
  unfold nsB
  rw [List.take_add_one, h, List.flatMap_append]
  simp
end Ed
/-- What stands behind the call: the bytes, in memory of its own; no other block is written but theirs. -/
structure Puts (w w' : World) (base : Nat) (B B' : Option Addr) (bs' : List Nat) (cap' : Nat) : Prop where
  own : Own w' base B' bs'.length cap' bs'
  grew : w.grownBy w' (blkOf B)
  blk : ∀ g, blkOf B' = some g → blkOf B = some g ∨ w.heap.size ≤ g
theorem Puts.refl {w : World} {base n cap : Nat} {B : Option Addr} {bs : List Nat} (h : Own w base B n cap bs) : Puts w w base B B bs cap := ⟨own_len h h.1.symm, World.grownBy.refl _ _, fun _ h => .inl h⟩
theorem Puts.trans {w w1 w2 : World} {base : Nat} {B B1 B2 : Option Addr} {b1 b2 : List Nat} {c1 c2 : Nat} (h : Puts w w1 base B B1 b1 c1) (k : Puts w1 w2 base B1 B2 b2 c2) : Puts w w2 base B B2 b2 c2 :=
  ⟨k.own, h.grew.andThen k.grew (fun j hj => (h.blk j hj).symm), fun g hg => by
    rcases k.blk g hg with e | e
    · exact h.blk g e
    · exact .inr (Nat.le_trans h.grew.size e)⟩
/-- Something is made ahead. -/
theorem Puts.after {w w1 w2 : World} {base : Nat} {B B2 : Option Addr} {b2 : List Nat} {c2 : Nat} (h : Below w.heap.size w w1) (k : Puts w1 w2 base B B2 b2 c2) : Puts w w2 base B B2 b2 c2 :=
  ⟨k.own, ((grown_of_below h).but _).trans k.grew, fun g hg => by
    rcases k.blk g hg with e | e
    · exact .inl e
    · exact .inr (Nat.le_trans h.size e)⟩
theorem Puts.more {w w1 w2 : World} {base : Nat} {B B1 : Option Addr} {b1 : List Nat} {c1 : Nat} (h : Puts w w1 base B B1 b1 c1) (k : Below w1.heap.size w1 w2) : Puts w w2 base B B1 b1 c1 :=
  ⟨h.own.below k, h.grew.trans ((grown_of_below k).but _), h.blk⟩
theorem Puts.of {w w' : World} {base n cap n' cap' : Nat} {B B' : Option Addr} {bs : List Nat} (h : Grew w w' base B B' n cap n' cap' bs) : Puts w w' base B B' bs cap' :=
  ⟨own_len h.own h.own.1.symm, by rw [← ownBlock_eq B n cap]; exact h.grew, fun g hg => by
    have hb := h.blk
    rw [ownBlock_eq, ownBlock_eq, hg] at hb
    rcases hb with e | e
    · exact .inl e.symm
    · injection e with e; exact .inr (by omega)⟩
theorem Puts.below {a w w' : World} {base b n cap : Nat} {B B' : Option Addr} {bs bs' : List Nat} {cap' : Nat} (h : Puts w w' base B B' bs' cap') (hb : Below b a w) (hB : b ≤ w.heap.size) (ho : Own w base B n cap bs) (hbb : b ≤ base) : Below b a w' :=
  hb.grown h.grew hB (fun g hg => Nat.le_trans hbb (ho.blk g (by rw [ownBlock_eq]; exact hg)).1)
/-- What a call gives that puts bytes behind others. -/
def GivesPut (w : World) (base : Nat) (B : Option Addr) (bs' : List Nat) (e : Ending) (w' : World) : Prop :=
  ∃ B' cap', e = .returned (.slice B' bs'.length cap') ∧ Puts w w' base B B' bs' cap'
set_option maxRecDepth 100000 in
set_option maxHeartbeats 8000000 in
theorem putnums_any (base : Nat) (B : Option Addr) (n cap : Nat) (bs : List Nat) (A : Option Addr) (m mc : Nat) (ns : List Int) (w : World) (h : Own w base B n cap bs) (hbase : base ≤ w.heap.size) (hr : RdI w A m ns) (hoff : Off A B) (hns : ∀ x ∈ ns, 0 ≤ x ∧ x ≤ 9223372036854775807) (hn : n ≤ 10000000) (hm : m ≤ 100000) :
    Calls Tryz.prog 80 #[.slice B n cap, .slice A m mc] w (GivesPut w base B (bs ++ Ed.nsB ns)) := by
  have hl := h.1
  subst hl
  have HR := hd_ hr
  have HO := hd_ hoff
  have HN := hd_ hns
  have HP := hd_ (Puts.refl h)
  have HBs := hd_ hbase
  clear h hr hoff hns hbase
  go_enter Tryz.func80, Tryz.ntmps80
  go_wp2_with fail
  go_loopw [0, 9] (fun s0 ii wr => ∃ (k : Nat) (B' : Option Addr) (l' : List Nat) (cap' : Nat), k ≤ m ∧ ii = .int .i64 (k : Int) ∧ s0 = .slice B' l'.length cap' ∧ Hid (Puts w wr base B B' l' cap') ∧ Hid (l' = bs ++ Ed.nsB (ns.take k))) (fun _ ii _ => m - (intOf ii).toNat)
  case atStart => exact ⟨0, B, bs, cap, by omega, rfl, rfl, HP, hd_ (by rw [List.take_zero]; simp [Ed.nsB])⟩
  case round =>
    clear HP
    obtain ⟨k, B', l', cap', hk, rfl, rfl, HP, HL⟩ := hrel
    by_cases hlt : k < m
    · have hki : (k : Int) < (m : Int) := by omega
      have hk0 : (0 : Int) ≤ (k : Int) := by omega
      obtain ⟨x, hx⟩ : ∃ x, ns[k]? = some x := ⟨_, List.getElem?_eq_getElem (by rw [HR.out.1]; exact hlt)⟩
      have hx0 := HN.out x (List.mem_of_getElem? hx)
      obtain ⟨y, rfl⟩ : ∃ y : Nat, x = (y : Int) := ⟨x.toNat, by omega⟩
      obtain ⟨b, o, hAb, hb, hc⟩ := HR.out.2.2 (by omega)
      have e0 : wr.cell? ⟨b, o + k, none⟩ = some (.int .i64 (y : Int)) := HP.out.grew.cell (hc k _ (by unfold Pk.iv; rw [List.getElem?_map, hx]; rfl)) (fun e => HO.out b (by rw [hAb]; rfl) e.symm)
      have hy : y ≤ 9223372036854775807 := by omega
      have HX := hd_ hx
      have HNum := hd_ (num_any y (by omega) wr)
      have HBw := hd_ (Nat.le_trans HBs.out HP.out.grew.size)
      have hlen : l'.length ≤ 10000000 + 1100000 := by
        rw [HL.out, List.length_append]
        have := Ed.nsB_len (ns.take k)
        rw [List.length_take] at this
        omega
      clear hx hc hb hx0
      subst hAb
      go_wp2_with fail
      refine HNum.out.mono ?_
      rintro e v ⟨Z, zc, rfl, hz, hbz⟩
      have HZ := hd_ hz
      have HBz := hd_ hbz
      have hoz := HP.out.own.below hbz
      have hzl : (Cd.num y).length ≤ 11 := Ed.numF_len 10 y
      have hbv : base ≤ v.heap.size := Nat.le_trans HBw.out hbz.size
      clear hz hbz
      go_wp2_with (first | (at_builtin; refine wpList_appB rfl (.tmp 13) (.tmp 16) rfl rfl hoz Z (Cd.num y).length zc (Cd.num y) rfl HZ.out.rd (by omega) hbv ?_; intro B3 cap3 w3 hg3))
      have HG := hd_ ((HP.out.more HBz.out).trans (Puts.of hg3))
      have HLn := hd_ (show l' ++ Cd.num y = bs ++ Ed.nsB (ns.take (k + 1)) by rw [Ed.nsB_snoc HX.out, HL.out, List.append_assoc]; rfl)
      clear hg3 hoz
      go_roundw
      case rel => exact ⟨k + 1, B3, l' ++ Cd.num y, cap3, by omega, by go_num, by rw [List.length_append], HG, HLn⟩
      case measure => simp [intOf]; omega
    · have hki : ¬ (k : Int) < (m : Int) := by omega
      have HLn := hd_ (show l' = bs ++ Ed.nsB ns by
        have h := HL.out
        rwa [List.take_of_length_le (by rw [HR.out.1]; omega)] at h)
      clear hlt
      go_wp2
      go_ret
      rw [← HLn.out]
      exact ⟨B', cap', rfl, HP.out⟩
end Go.Proofs.YthfcjlndaajkfaaGreat
namespace Go.Proofs.YthfcjlndaajkfaaGreat
open Go.RowKit
set_option linter.unusedVariables false
theorem rdi_new (w : World) (l : List Int) (E : TypeId) : RdI (w.alloc (.cells (Pk.iv l).toArray E)) (some ⟨w.heap.size, 0, none⟩) l.length l := by
  have h := Holds.new w (Pk.iv l).toArray E
  refine ⟨rfl, by unfold Pk.iv; simp, fun _ => ⟨_, 0, rfl, by simp, fun j v hv => ?_⟩⟩
  rw [Nat.zero_add]
  exact h.at_ j (by simpa using hv)
theorem off_new {w : World} {base n cap : Nat} {B : Option Addr} {bs : List Nat} (h : Own w base B n cap bs) {g : Nat} (hg : w.heap.size ≤ g) : Off (some ⟨g, 0, none⟩) B := fun b hb e => by
  have := (h.blk b (by rw [ownBlock_eq]; exact e)).2
  injection hb with hb
  have : g = b := hb
  omega
theorem Ed.pl_snoc {ps : List (Int × Int)} {k : Nat} {x y : Int} (h : ps[k]? = some (x, y)) : ((ps.take (k + 1)).flatMap fun x => Ed.nsB [x.1, x.2]) = ((ps.take k).flatMap fun x => Ed.nsB [x.1, x.2]) ++ Ed.nsB [x, y] := by
  rw [List.take_add_one, h, List.flatMap_append]
  simp
theorem Ed.pl_len (ps : List (Int × Int)) : (ps.flatMap fun x => Ed.nsB [x.1, x.2]).length ≤ ps.length * 22 := by
  induction ps with
  | nil => simp
  | cons p r ih =>
    rw [List.flatMap_cons, List.length_append, List.length_cons]
    have := Ed.nsB_len [p.1, p.2]
    simp only [List.length_cons, List.length_nil] at this
    omega
theorem Ed.okP_n {p : Pl} (h : p.ok = true) : 0 ≤ p.id ∧ p.id ≤ 2147483647 ∧ 0 ≤ p.ep ∧ p.ep ≤ 2147483647 ∧ p.ps.length ≤ 64 ∧ ∀ z ∈ fl p.ps, 0 ≤ z ∧ z ≤ 510 := by
  unfold Pl.ok okP at h
  simp only [Bool.and_eq_true, from_iff, List.all_eq_true] at h
  obtain ⟨⟨⟨⟨h1, h2⟩, h3⟩, h4⟩, h5⟩ := h
  exact ⟨by omega, by omega, by omega, by omega, by omega, h4⟩
set_option maxRecDepth 100000 in
set_option maxHeartbeats 8000000 in
theorem putplace_any (base : Nat) (B : Option Addr) (n cap : Nat) (bs : List Nat) (id ep : Int) (P : Option Addr) (pn pc : Nat) (ps : List (Int × Int)) (w : World) (h : Own w base B n cap bs) (hbase : base ≤ w.heap.size) (hP : PairsOk w P pn pc ps) (hoff : Off P B) (hok : (⟨id, ep, ps⟩ : Ed.Pl).ok = true) (hn : n ≤ 5000000) :
    Calls Tryz.prog 81 #[.slice B n cap, .agg #[.int .i64 id, .int .i64 ep, .slice P pn pc]] w (GivesPut w base B (bs ++ Ed.plB ⟨id, ep, ps⟩)) := by
  have hl := h.1
  subst hl
  have h1 : Below w.heap.size w (w.alloc (.cells #[.int .i64 id, .int .i64 ep, .slice P pn pc] 32)) := (Below.refl _ _).alloc (Nat.le_refl _) _
  have h2 : Below w.heap.size w ((w.alloc (.cells #[.int .i64 id, .int .i64 ep, .slice P pn pc] 32)).alloc (.cells #[.int .i64 id, .int .i64 ep, .int .i64 (pn : Int)] 3)) := h1.alloc h1.size _
  have HX := hd_ ((Holds.new w #[.int .i64 id, .int .i64 ep, .slice P pn pc] 32).alloc (.cells #[.int .i64 id, .int .i64 ep, .int .i64 (pn : Int)] 3))
  have HI := hd_ (rdi_new (w.alloc (.cells #[.int .i64 id, .int .i64 ep, .slice P pn pc] 32)) [id, ep, (pn : Int)] 3)
  have HOk := hd_ (Ed.okP_n hok)
  have HPl : Hid (ps.length = pn) := hd_ hP.1.1
  have HP := hd_ (hP.below h2)
  have HOf := hd_ hoff
  have HB2 := hd_ h2
  have HOw := hd_ (h.below h2)
  have HBs := hd_ hbase
  have HBk := hd_ (show ∀ g, blkOf B = some g → g < w.heap.size from fun g hg => (h.blk g (by rw [ownBlock_eq]; exact hg)).2)
  have C := hd_ (putnums_any base B bs.length cap bs (some ⟨(w.alloc (.cells #[.int .i64 id, .int .i64 ep, .slice P pn pc] 32)).heap.size, 0, none⟩) 3 3 [id, ep, (pn : Int)] ((w.alloc (.cells #[.int .i64 id, .int .i64 ep, .slice P pn pc] 32)).alloc (.cells #[.int .i64 id, .int .i64 ep, .int .i64 (pn : Int)] 3)) (h.below h2) (Nat.le_trans hbase h2.size) HI.out (off_new h h1.size) (fun x hx => by
    have h5 := HOk.out
    dsimp only at h5
    rw [HPl.out] at h5
    simp only [List.mem_cons, List.not_mem_nil, or_false] at hx
    rcases hx with rfl | rfl | rfl <;> omega) (by omega) (by omega))
  clear h h1 h2 hbase hP hoff hok HI
  have hsz1 : Hid ((w.alloc (.cells #[.int .i64 id, .int .i64 ep, .slice P pn pc] 32)).heap.size = w.heap.size + 1) := hd_ (by simp)
  go_enter Tryz.func81, Tryz.ntmps81
  go_wp2_with fail
  rw [hsz1.out] at C
  refine C.out.mono ?_
  clear C
  generalize ((w.alloc (.cells #[.int .i64 id, .int .i64 ep, .slice P pn pc] 32)).alloc (.cells #[.int .i64 id, .int .i64 ep, .int .i64 (pn : Int)] 3)) = u at *
  rintro e v ⟨B1, c1, rfl, hp1⟩
  have HPu := hd_ hp1
  have HBx := hd_ (show ∀ g, blkOf B = some g → g ≠ w.heap.size from fun g hg => by have := HBk.out g hg; omega)
  clear hp1
  have x2 := (HX.out.grown HPu.out.grew (fun e => HBx.out _ e rfl)).at_ 2 rfl
  replace x2 : v.cell? ⟨w.heap.size, 2, none⟩ = some (.slice P pn pc) := x2
  go_wp2_with fail
  clear x2
  go_loopw [0, 20] (fun s0 ii wr => ∃ (k : Nat) (B' : Option Addr) (l' : List Nat) (cap' : Nat), k ≤ pn ∧ ii = .int .i64 (k : Int) ∧ s0 = .slice B' l'.length cap' ∧ Hid (Puts u wr base B B' l' cap') ∧ Hid (l' = bs ++ Ed.nsB [id, ep, (pn : Int)] ++ (ps.take k).flatMap fun x => Ed.nsB [x.1, x.2])) (fun _ ii _ => pn - (intOf ii).toNat)
  case atStart => exact ⟨0, B1, _, c1, by omega, rfl, by rw [List.length_append], HPu, hd_ (by simp)⟩
  case round =>
    clear HPu
    obtain ⟨k, B', l', cap', hk, rfl, rfl, HPw, HL⟩ := hrel
    by_cases hlt : k < pn
    · have hki : (k : Int) < (pn : Int) := by omega
      have hk0 : (0 : Int) ≤ (k : Int) := by omega
      obtain ⟨q, hq⟩ : ∃ q, ps[k]? = some q := ⟨_, List.getElem?_eq_getElem (by rw [HPl.out]; exact hlt)⟩
      obtain ⟨x, y⟩ := q
      obtain ⟨b, o, hAb, hb, hc⟩ := HP.out.1.at_ hq
      obtain ⟨p0, p1⟩ := hc u (Below.refl _ _)
      have hbB : some b ≠ blkOf B := fun e => HOf.out b (by rw [hAb]; rfl) e.symm
      have e0 : wr.cell? ⟨b, o + k * 2, none⟩ = some (.int .i64 x) := HPw.out.grew.cell p0 hbB
      have e1 : wr.cell? ⟨b, o + k * 2 + 1, none⟩ = some (.int .i64 y) := HPw.out.grew.cell p1 hbB
      have HQ := hd_ hq
      have hpn64 := HOk.out.2.2.2.2.1
      have hxy := HOk.out.2.2.2.2.2
      try dsimp only at hpn64 hxy
      rw [HPl.out] at hpn64
      have hxf := hxy x (List.mem_flatMap.2 ⟨_, List.mem_of_getElem? hq, by simp⟩)
      have hyf := hxy y (List.mem_flatMap.2 ⟨_, List.mem_of_getElem? hq, by simp⟩)
      have hlen : l'.length ≤ 5000000 + 33 + 64 * 22 := by
        rw [HL.out, List.length_append, List.length_append]
        have a1 := Ed.nsB_len [id, ep, (pn : Int)]
        have a2 := Ed.pl_len (ps.take k)
        rw [List.length_take] at a2
        simp only [List.length_cons, List.length_nil] at a1
        omega
      have r1 : Below wr.heap.size wr (wr.alloc (.cells #[.int .i64 x, .int .i64 y] 64)) := (Below.refl _ _).alloc (Nat.le_refl _) _
      have r2 : Below wr.heap.size wr ((wr.alloc (.cells #[.int .i64 x, .int .i64 y] 64)).alloc (.cells #[.int .i64 x, .int .i64 y] 3)) := r1.alloc r1.size _
      have HX2 := hd_ (Holds.new wr #[.int .i64 x, .int .i64 y] 64)
      have q0 : (wr.alloc (.cells #[.int .i64 x, .int .i64 y] 64)).cell? ⟨wr.heap.size, 0, none⟩ = some (.int .i64 x) := HX2.out.at_ 0 rfl
      have q1 : (wr.alloc (.cells #[.int .i64 x, .int .i64 y] 64)).cell? ⟨wr.heap.size, 1, none⟩ = some (.int .i64 y) := HX2.out.at_ 1 rfl
      have HRr := hd_ r2
      have C := hd_ (putnums_any base B' l'.length cap' l' (some ⟨(wr.alloc (.cells #[.int .i64 x, .int .i64 y] 64)).heap.size, 0, none⟩) 2 2 [x, y] ((wr.alloc (.cells #[.int .i64 x, .int .i64 y] 64)).alloc (.cells #[.int .i64 x, .int .i64 y] 3)) (HPw.out.own.below r2) (Nat.le_trans (Nat.le_trans (Nat.le_trans HBs.out HB2.out.size) HPw.out.grew.size) r2.size) (rdi_new (wr.alloc (.cells #[.int .i64 x, .int .i64 y] 64)) [x, y] 3) (off_new HPw.out.own r1.size) (fun z hz => by
        simp only [List.mem_cons, List.not_mem_nil, or_false] at hz
        rcases hz with rfl | rfl <;> omega) (by omega) (by omega))
      clear hc hq p0 p1 hb hbB r1 r2 hxy hxf hyf
      subst hAb
      go_wp2_with fail
      rw [show (wr.alloc (.cells #[.int .i64 x, .int .i64 y] 64)).heap.size = wr.heap.size + 1 by simp] at C
      refine C.out.mono ?_
      clear C
      rintro e v2 ⟨B3, c3, rfl, hp3⟩
      have HG := hd_ ((HPw.out.more HRr.out).trans hp3)
      have HLn := hd_ (show l' ++ Ed.nsB [x, y] = bs ++ Ed.nsB [id, ep, (pn : Int)] ++ (ps.take (k + 1)).flatMap fun x => Ed.nsB [x.1, x.2] by rw [Ed.pl_snoc HQ.out, HL.out, List.append_assoc])
      clear hp3 e0 e1 q0 q1 HX2 HRr HPw HL
      go_wp2
      go_roundw
      case rel => exact ⟨k + 1, B3, _, c3, by omega, by go_num, (by first | rfl | rw [List.length_append]), HG, HLn⟩
      case measure => simp [intOf]; omega
    · have hki : ¬ (k : Int) < (pn : Int) := by omega
      have HLn := hd_ (show l' = bs ++ Ed.plB ⟨id, ep, ps⟩ by
        have h := HL.out
        rw [List.take_of_length_le (by rw [HPl.out]; omega)] at h
        rw [h, List.append_assoc]
        unfold Ed.plB
        dsimp only
        rw [HPl.out])
      clear hlt
      go_wp2
      go_ret
      rw [← HLn.out]
      exact ⟨B', cap', rfl, Puts.after HB2.out HPw.out⟩
end Go.Proofs.YthfcjlndaajkfaaGreat
