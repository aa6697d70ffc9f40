/- The document's payload: words. -/
import Derived.Test.YtpfdacnjikdifaaFgRRow
namespace Go.Proofs.Ytpfdacnjikdifaa
open Go.RowKit
set_option linter.unusedVariables false
/-- Blocks that payload does not write to. -/
def Okb (z j : Nat) (R : Option Nat) (b : Nat) : Prop := (b < j ∨ j + 2 ≤ b) ∧ some b ≠ R ∧ b ≠ z
structure Pa (z : Nat) (a v : World) (j : Nat) (A : Option Addr) (n cap : Nat) (vs : List Value) (out : List (List Nat)) : Prop where
  below : Below a.heap.size a v
  eq : a.heap.size = j
  size : j + 2 ≤ v.heap.size
  row : OwnV v (j + 2) 29 A n cap vs
  items : Items v (Okb z j (Value.slice A n cap).ownBlock) vs out
section
variable {a v v' : World} {z j n cap cap' : Nat} {A A' : Option Addr} {vs : List Value} {out : List (List Nat)} {u : Value} {l : List Nat} {R : Option Nat}
theorem Pa.keep (h : Pa z a v j A n cap vs out) (hb : Below v.heap.size v v') : Pa z a v' j A n cap vs out :=
  ⟨h.below.trans (hb.mono (by have := h.size; have := h.eq; omega)), h.eq, Nat.le_trans h.size hb.size, h.row.below hb, h.items.below hb⟩
theorem Item.off {p : Addr} (h : Item v (Okb z j R) u l) (hp : p.block = j ∨ p.block = j + 1) (y : Value) : Item (v.setCell p y) (Okb z j R) u l :=
  h.grown (grown_setCell v p y) (fun b hb hx e => by injection e with e; have := hx.1; omega)
theorem Pa.far {p : Addr} (h : Pa z a v j A n cap vs out) (hp : p.block = j ∨ p.block = j + 1) (y : Value) : Pa z a (v.setCell p y) j A n cap vs out := by
  have he := h.eq
  exact ⟨h.below.setCell (by omega) y, h.eq, by simpa [World.setCell] using h.size, h.row.grown (grown_setCell v p y) (.inr fun g hg e => by injection hg with hg; have := (h.row.blk _ e).1; omega), h.items.grown (grown_setCell v p y) (fun b hb hx e => by injection e with e; have := hx.1; omega)⟩
theorem Pa.push (h : Pa z a v j A n cap vs out) (hi : Item v (Okb z j (Value.slice A n cap).ownBlock) u l) (hg : GrewV v v' (j + 2) 29 A A' n cap (n + 1) cap' (vs ++ [u])) : Pa z a v' j A' (n + 1) cap' (vs ++ [u]) (out ++ [l]) := by
  have hrb := h.row.blk
  have he := h.eq
  have hsz := h.size
  refine ⟨hg.below h.below (by omega) (fun g e => by have := (hrb g e).1; omega), h.eq, Nat.le_trans h.size hg.grew.size, hg.own, ?_⟩
  have h1 := (h.items.snoc hi).imp (Y := fun b => Okb z j (Value.slice A' (n + 1) cap').ownBlock b ∧ some b ≠ (Value.slice A n cap).ownBlock) (fun b hb hx => ⟨⟨hx.1, by
      rcases hg.blk with e | e
      · rw [e]; exact hx.2.1
      · rw [e]; intro e2; injection e2 with e2; omega, hx.2.2⟩, hx.2.1⟩)
  exact (h1.grown hg.grew (fun b hb hx => hx.2)).imp fun b hb hx => hx.1
theorem Own.item_ {base c m : Nat} {B : Option Addr} (h : Own v base B m c l) (hm : l.length = m) (h0 : m ≤ 100000000) (hb : ∀ g, base ≤ g → Okb z j R g) : Item v (Okb z j R) (.slice B m c) l := by
  subst hm
  refine ⟨B, c, rfl, h.rd, h.cap, by omega, fun b o e hl => ?_⟩
  subst e
  exact hb b (h.blk b rfl).1
end
theorem Items.one {w : World} {X : Nat → Prop} {vs : List Value} {L : List (List Nat)} (h : Items w X vs L) : ∀ u ∈ vs, u.oneCell' = true := by
  intro u hu
  obtain ⟨i, hi⟩ := List.getElem?_of_mem hu
  have hl := (List.getElem?_eq_some_iff.1 hi).1
  obtain ⟨v, l, hv, _, B, c, rfl, _⟩ := h.at_ (j := i) (by rw [← h.1]; exact hl)
  rw [hi] at hv
  injection hv with hv
  subst hv
  rfl
theorem ownv_empty (w : World) (base : Nat) (E : TypeId) (hb : base ≤ w.heap.size) : OwnV (w.alloc (.cells #[] E)) base E (some ⟨w.heap.size, 0, none⟩) 0 0 [] := OwnV.lit w E [] hb (by simp)
/-- payload's own copy of the state stands in block j, what it returns in the next. -/
def PAt (z : Nat) (a : World) (j : Nat) (s : Fg.Js) (v : World) : Prop :=
  ∃ (A : Option Addr) (n cap : Nat) (vs : List Value) (B : Option Addr) (m c : Nat),
    Holds v j [.slice A n cap, .bool s.2.isSome, .slice B m c] ∧ Holds v (j + 1) [.slice none 0 0, .bool false, .slice none 0 0] ∧
      Pa z a v j A n cap vs s.1 ∧ ∀ x, s.2 = some x → Item v (Okb z j (Value.slice A n cap).ownBlock) (.slice B m c) x
theorem Holds.aside {v : World} {b : Nat} {cs : List Value} {p : Addr} (h : Holds v b cs) (hp : p.block ≠ b) (y : Value) : Holds (v.setCell p y) b cs := h.gr (grown_setCell v p y) (fun e => by injection e with e; exact hp e.symm)
theorem PAt.done {a v : World} {z j n cap : Nat} {A : Option Addr} {vs : List Value} {out : List (List Nat)} {x0 x1 x2 : Value} (h0 : Holds v j [x0, x1, x2]) (h1 : Holds v (j + 1) [.slice none 0 0, .bool false, .slice none 0 0]) (hP : Pa z a v j A n cap vs out) :
    PAt z a j (out, none) (((v.setCell ⟨j, 0, none⟩ (.slice A n cap)).setCell ⟨j, 1, none⟩ (.bool false)).setCell ⟨j, 2, none⟩ (.slice none 0 0)) :=
  ⟨A, n, cap, vs, none, 0, 0, ((h0.set 0 (.slice A n cap) (by simp)).set 1 (.bool false) (by simp)).set 2 (.slice none 0 0) (by simp),
    ((h1.aside (p := ⟨j, 0, none⟩) (by simp) _).aside (p := ⟨j, 1, none⟩) (by simp) _).aside (p := ⟨j, 2, none⟩) (by simp) _,
    ((hP.far (p := ⟨j, 0, none⟩) (.inl rfl) _).far (p := ⟨j, 1, none⟩) (.inl rfl) _).far (p := ⟨j, 2, none⟩) (.inl rfl) _, (fun x e => by cases e)⟩
theorem PAt.open_ {a v : World} {z j n cap m c : Nat} {A B : Option Addr} {vs : List Value} {out : List (List Nat)} {x1 x2 : Value} {x : List Nat} (h0 : Holds v j [.slice A n cap, x1, x2]) (h1 : Holds v (j + 1) [.slice none 0 0, .bool false, .slice none 0 0]) (hP : Pa z a v j A n cap vs out) (hi : Item v (Okb z j (Value.slice A n cap).ownBlock) (.slice B m c) x) :
    PAt z a j (out, some x) ((v.setCell ⟨j, 1, none⟩ (.bool true)).setCell ⟨j, 2, none⟩ (.slice B m c)) :=
  ⟨A, n, cap, vs, B, m, c, (h0.set 1 (.bool true) (by simp)).set 2 (.slice B m c) (by simp),
    (h1.aside (p := ⟨j, 1, none⟩) (by simp) _).aside (p := ⟨j, 2, none⟩) (by simp) _,
    (hP.far (p := ⟨j, 1, none⟩) (.inl rfl) _).far (p := ⟨j, 2, none⟩) (.inl rfl) _, (fun x' e => by injection e with e; subst e; exact (hi.off (p := ⟨j, 1, none⟩) (.inl rfl) _).off (p := ⟨j, 2, none⟩) (.inl rfl) _)⟩
/-- A state as a value. -/
def StAt (z : Nat) (v : World) (s : Fg.Js) (A : Option Addr) (n : Nat) (B : Option Addr) (m : Nat) (c : Nat) : Prop :=
  ∃ vs, RdV v A n vs ∧ Items v (fun b => b ≠ z) vs s.1 ∧ ∀ x, s.2 = some x → Item v (fun b => b ≠ z) (.slice B m c) x
theorem StAt.below {z : Nat} {v v' : World} {s : Fg.Js} {A B : Option Addr} {n m c : Nat} (h : StAt z v s A n B m c) (hb : Below v.heap.size v v') : StAt z v' s A n B m c := by
  obtain ⟨vs, h1, h2, h3⟩ := h
  exact ⟨vs, h1.below hb, h2.below hb, fun x e => (h3 x e).below hb⟩
def GivesPay (z : Nat) (w : World) (o : Option Fg.Js) (e : Ending) (w' : World) : Prop :=
  Below w.heap.size w w' ∧ match o with
    | none => e = .returned (.tuple #[.agg #[.slice none 0 0, .bool false, .slice none 0 0], .bool false])
    | some s' => ∃ (A : Option Addr) (n cap : Nat) (B : Option Addr) (m c : Nat), e = .returned (.tuple #[.agg #[.slice A n cap, .bool s'.2.isSome, .slice B m c], .bool true]) ∧ n ≤ cap ∧ StAt z w' s' A n B m c ∧ ∀ b o, A = some ⟨b, o, none⟩ → 0 < n → w.heap.size ≤ b
theorem Fg.steps_at {K : List (Nat × List Nat)} {i k : Nat} {b : List Nat} (h : K[i]? = some (k, b)) (s : Fg.Js) : Fg.steps (K.drop i) s = match Fg.jstep s k b with | none => none | some s' => Fg.steps (K.drop (i + 1)) s' := by
  have hi := (List.getElem?_eq_some_iff.1 h).1
  rw [List.drop_eq_getElem_cons hi]
  rw [List.getElem?_eq_getElem hi] at h
  injection h with h
  rw [h]
  rfl
set_option maxRecDepth 100000 in
set_option maxHeartbeats 4000000 in
theorem rpay_any (z : Nat) (Aw : Option Addr) (nw cw : Nat) (B : Option Addr) (m c : Nat) (s : Fg.Js) (AP : Option Addr) (np cp : Nat) (K : List (Nat × List Nat)) (w : World) (hs : StAt z w s Aw nw B m c) (hz : z < w.heap.size) (hF : Fg.JFit s) (hP : RdP w AP np K)
    (hK : ∀ x ∈ K, 1 ≤ x.1 ∧ x.1 ≤ 4 ∧ x.2.length ≤ 106) (hn : nw + np ≤ 1000000) :
    Calls Try.prog 25 #[.agg #[.slice Aw nw cw, .bool s.2.isSome, .slice B m c], .slice AP np cp] w (GivesPay z w (Fg.steps K s)) := by
  obtain ⟨vs, hrv, hit, hsb⟩ := hs
  have hone := hit.one
  have hlen : s.1.length = nw := by rw [← hit.1]; exact hrv.1
  have hb2 : Below w.heap.size w ((w.alloc (.cells #[.slice Aw nw cw, .bool s.2.isSome, .slice B m c] 52)).alloc (.cells #[.slice none 0 0, .bool false, .slice none 0 0] 52)) := ((Below.refl _ _).alloc (Nat.le_refl _) _).alloc (by simp) _
  have k0 := (Holds.new w #[.slice Aw nw cw, .bool s.2.isSome, .slice B m c] 52).alloc (.cells #[.slice none 0 0, .bool false, .slice none 0 0] 52)
  have k1 := Holds.new (w.alloc (.cells #[.slice Aw nw cw, .bool s.2.isSome, .slice B m c] 52)) #[.slice none 0 0, .bool false, .slice none 0 0] 52
  go_enter Try.func25, Try.ntmps25
  go_upto_region 1 with fail
  have hsz2 : ((w.alloc (.cells #[.slice Aw nw cw, .bool s.2.isSome, .slice B m c] 52)).alloc (.cells #[.slice none 0 0, .bool false, .slice none 0 0] 52)).heap.size = w.heap.size + 2 := by simp
  rw [show (w.alloc (.cells #[.slice Aw nw cw, .bool s.2.isSome, .slice B m c] 52)).heap.size = w.heap.size + 1 by simp] at k1
  generalize ((w.alloc (.cells #[.slice Aw nw cw, .bool s.2.isSome, .slice B m c] 52)).alloc (.cells #[.slice none 0 0, .bool false, .slice none 0 0] 52)) = w2 at *
  have hre := ownv_empty w2 (w.heap.size + 2) 29 (Nat.le_of_eq hsz2.symm)
  have k03 := k0.alloc (.cells #[] 29)
  have k13 := k1.alloc (.cells #[] 29)
  have hb3 := hb2.alloc hb2.size (.cells #[] 29)
  have hr3 := hrv.below hb3
  have hl3 : 0 + nw ≤ 1000000 := by omega
  have hba3 : w.heap.size + 2 ≤ (w2.alloc (.cells #[] 29)).heap.size := by simp; omega
  have c0 := k03.at_ 0 rfl
  have HB3 := Lib.hid hb3
  have HSt := Lib.hid hsb
  have HIt := Lib.hid hit
  have HK03 := Lib.hid k03
  have HK13 := Lib.hid k13
  have HP := Lib.hid hP
  have HKK := Lib.hid hK
  have HS2 := Lib.hid hsz2
  have HLen := Lib.hid hlen
  clear hsb hit k0 k1 k03 k13 hP hK hb2 hb3 hsz2 hrv hlen
  go_upto_region 2 with (first | (at_builtin; refine wpList_appV oneB rfl (.tmp 9) (.tmp 11) rfl rfl hre Aw nw cw vs hone rfl hr3 hl3 hba3 ?_; intro A3 c3 v3 hg3; have k04 := HK03.out.gr hg3.grew (fun e => by have := (hre.blk _ e.symm).1; omega); have y0 := k04.at_ 0 rfl; have yl := k04.1; have yf := k04.2.2 0; have HK04 := Lib.hid k04; have HG3 := Lib.hid hg3; clear k04 hg3))
  have hP0 : PAt z w w.heap.size s (v3.setCell ⟨w.heap.size, 0, none⟩ (.slice A3 nw c3)) := by
    have hg := HG3.out
    rw [List.nil_append, Nat.zero_add] at hg
    have hgr := grown_setCell v3 ⟨w.heap.size, 0, none⟩ (.slice A3 nw c3)
    have hbv : Below w.heap.size w v3 := hg.below HB3.out (by omega) (fun g e => by have := (hre.blk g e).1; omega)
    have hrb := hg.own.blk
    refine ⟨A3, nw, c3, vs, B, m, c, HK04.out.set 0 (.slice A3 nw c3) (by simp), (HK13.out.gr hg.grew (fun e => by have := (hre.blk _ e.symm).1; omega)).gr hgr (fun e => by injection e with e; change w.heap.size + 1 = w.heap.size at e; omega), ?_, ?_⟩
    · refine Pa.far ⟨hbv, rfl, Nat.le_trans hba3 hg.grew.size, hg.own, ?_⟩ (.inl rfl) _
      exact (HIt.out.imp (Y := Okb z w.heap.size (Value.slice A3 nw c3).ownBlock) (fun b hb hx => ⟨.inl hb, (fun e => by have := (hrb b e.symm).1; omega), hx⟩)).below hbv
    · intro x hx
      refine Item.off ?_ (.inl rfl) _
      exact ((HSt.out x hx).imp (Y := Okb z w.heap.size (Value.slice A3 nw c3).ownBlock) (fun b hb hx => ⟨.inl hb, (fun e => by have := (hrb b e.symm).1; omega), hx⟩)).below hbv
  have HP0 := Lib.hid hP0
  have HF := Lib.hid hF
  clear hP0 hF y0 yl yf hre c0 hr3 hl3 hba3 HG3 HK04 HK03 HK13 HB3 HIt hone HSt
  go_wp2_with fail
  go_loopw [6] (fun ii v => ∃ (k : Nat) (s' : Fg.Js), k ≤ np ∧ ii = .int .i64 (k : Int) ∧ PAt z w w.heap.size s' v ∧ Fg.JFit s' ∧ s'.1.length ≤ nw + k ∧ Hid (Fg.steps K s = Fg.steps (K.drop k) s')) (fun ii _ => np - (intOf ii).toNat)
  case atStart => exact ⟨0, s, Nat.zero_le _, rfl, HP0.out, HF.out, by rw [HLen.out]; exact Nat.le_refl _, Lib.hid (by simp)⟩
  case round =>
    clear HP0 HF HS2
    obtain ⟨k, s', hk, rfl, hPA, hF', hmany, heq⟩ := hrel
    by_cases hkn : k < np
    · obtain ⟨pb, po, PB, pc, kd, l, rfl, hpb, hKk, hc0, hc1, hrd, hpc⟩ := HP.out.at_ hkn
      obtain ⟨A', n', cap', vs', B', m', c', H0, H1, hPa, hbeg⟩ := hPA
      have hc0' := (hPa.below.cell (p := ⟨pb, po + k * 2, none⟩) hpb).trans hc0
      have hc1' := (hPa.below.cell (p := ⟨pb, po + (k * 2 + 1), none⟩) hpb).trans hc1
      have hc1q : wr.cell? ⟨pb, po + k * 2 + 1, none⟩ = some (.slice PB l.length pc) := by rw [Nat.add_assoc]; exact hc1'
      clear hc1'
      have hki : (k : Int) < (np : Int) := by omega
      have hst := Fg.steps_at hKk s'
      rw [← heq.out] at hst
      obtain ⟨q1, q2, q3⟩ := HKK.out _ (List.mem_of_getElem? hKk)
      dsimp only at q1 q2 q3
      have HSteps := Lib.hid hst
      have HRd := Lib.hid hrd
      have HH0 := Lib.hid H0
      have HH1 := Lib.hid H1
      have HPa := Lib.hid hPa
      have HBeg := Lib.hid hbeg
      have HF' := Lib.hid hF'
      clear hc0 hc1 hKk heq hst hrd H0 H1 hPa hbeg hF'
      go_upto_region 6 with fail
      have hbk := (Below.refl wr.heap.size wr).alloc (Nat.le_refl _) (.cells #[.int .i64 (kd : Int), .slice PB l.length pc] 63)
      have hP5 := HPa.out.keep hbk
      have h05 := HH0.out.below hbk
      have h15 := HH1.out.below hbk
      have hq := Holds.new wr #[.int .i64 (kd : Int), .slice PB l.length pc] 63
      have hbg := fun x hx => (HBeg.out x hx).below hbk
      have hrd5 := HRd.out.below hP5.below
      have hqs := HPa.out.size
      clear hbk hc0' hc1q HPa HH0 HH1 HBeg
      generalize (wr.alloc (.cells #[.int .i64 (kd : Int), .slice PB l.length pc] 63)) = w5 at *
      generalize wr.heap.size = q at *
      obtain ⟨L, o⟩ := s'
      change L.length ≤ nw + k at hmany
      change Holds w5 q [.int .i64 (kd : Int), .slice PB l.length pc] at hq
      have a0 := hq.at_ 0 rfl
      have a1 := hq.at_ 1 rfl
      have d1 := h05.at_ 1 rfl
      have d2 := h05.at_ 2 rfl
      have hbe : Below w5.heap.size w5 (w5.alloc (.cells #[] 5)) := (Below.refl _ _).alloc (Nat.le_refl _) _
      have hown := own_empty w5 w5.heap.size (Nat.le_refl _)
      have hr6 := hrd5.below hbe
      have a1e := (hq.below hbe).at_ 1 rfl
      have hl9 : 0 + l.length ≤ 100000000 := by omega
      have hba := hbe.size
      have HH05 := Lib.hid h05
      have HH15 := Lib.hid h15
      have HHq := Lib.hid hq
      have HP5 := Lib.hid hP5
      have HBg := Lib.hid hbg
      have HBe := Lib.hid hbe
      have HOwn := Lib.hid hown
      clear h05 h15 hq hP5 hbg hbe hrd5
      have hkd : kd = 1 ∨ kd = 2 ∨ kd = 3 ∨ kd = 4 := by omega
      rcases hkd with rfl | rfl | rfl | rfl
      · go_upto_region 9 with (first | (at_builtin; refine wpList_appB rfl (.tmp 38) (.tmp 40) rfl rfl hown PB l.length pc l rfl hr6 hl9 hba ?_; intro A7 c7 v7 hg7; have HG7 := Lib.hid hg7; clear hg7))
        have hb7 := HG7.out.below HBe.out hba (fun g e => (HOwn.out.blk g e).1)
        have hown7 := HG7.out.own
        rw [List.nil_append, Nat.zero_add] at hown7
        have hP7 := HP5.out.keep hb7
        have h07 := HH05.out.below hb7
        have h17 := HH15.out.below hb7
        have hq7 := HHq.out.below hb7
        have hi7 : Item v7 (Okb z w.heap.size (Value.slice A' n' cap').ownBlock) (.slice A7 l.length c7) l := by
          have hs5 := HP5.out.size
          have hrb := HP5.out.row.blk
          have hs7 := hb7.size
          refine hown7.item_ rfl (by omega) (fun g hg => ⟨.inr (by omega), fun e => ?_, by omega⟩)
          have := (hrb g e.symm).2
          omega
        have hl7 : ¬ (8192 : Int) < (l.length : Int) := by omega
        have a07 := hq7.at_ 0 rfl
        have b07 := h07.at_ 0 rfl
        have hn7 : n' + 1 ≤ 1000000 := by
          have h1 := hP7.row.1
          have h2 : vs'.length = L.length := hP7.items.1
          omega
        have hbp : Below v7.heap.size v7 (v7.alloc (.cells #[.slice A7 l.length c7] 29)) := (Below.refl _ _).alloc (Nat.le_refl _) _
        have hP8 := hP7.keep hbp
        have h08 := h07.below hbp
        have h18 := h17.below hbp
        have hi8 := hi7.below hbp
        have b08 := h08.at_ 0 rfl
        have hrow8 := hP8.row
        have hba8 := hP8.size
        have hra := rdv_one v7 29 (.slice A7 l.length c7)
        have hone : ∀ u ∈ [Value.slice A7 l.length c7], u.oneCell' = true := by intro u hu; rw [List.mem_singleton] at hu; subst hu; rfl
        have hblk8 := hrow8.blk
        have HP8 := Lib.hid hP8
        have HH08 := Lib.hid h08
        have HH18 := Lib.hid h18
        have HI8 := Lib.hid hi8
        have HBlk8 := Lib.hid hblk8
        clear hown7 hP7 h07 h17 hq7 hi7 hbp hP8 h08 h18 hi8 hblk8 a0 a1 d1 d2 a1e hr6 hown
        go_wp2_with (first | (at_builtin; refine wpList_appV oneB rfl (.tmp 70) (.tmp 72) rfl rfl hrow8 (some ⟨v7.heap.size, 0, none⟩) 1 1 [.slice A7 l.length c7] hone rfl hra hn7 hba8 ?_; intro A9 c9 v9 hg9; have hP9 := HP8.out.push HI8.out hg9; have h09 := HH08.out.gr hg9.grew (fun e => by have := (HBlk8.out _ e.symm).1; omega); have h19 := HH18.out.gr hg9.grew (fun e => by have := (HBlk8.out _ e.symm).1; omega); have y0 := h09.at_ 0 rfl; have y1 := h09.at_ 1 rfl; have y2 := h09.at_ 2 rfl; have yl := h09.1; have yf0 := h09.2.2 0; have yf1 := h09.2.2 1; have yf2 := h09.2.2 2; have HP9 := Lib.hid hP9; have HH09 := Lib.hid h09; have HH19 := Lib.hid h19; clear hP9 h09 h19 hg9))
        go_roundw
        case rel =>
          refine ⟨k + 1, (L ++ [l], none), by omega, by go_num, PAt.done HH09.out HH19.out HP9.out, (fun x e => by cases e), ?_, ?_⟩
          · have hm := hmany
            simp at hm ⊢
            omega
          · exact Lib.hid HSteps.out
        case measure => simp [intOf]; omega
      · go_upto_region 9 with (first | (at_builtin; refine wpList_appB rfl (.tmp 38) (.tmp 40) rfl rfl hown PB l.length pc l rfl hr6 hl9 hba ?_; intro A7 c7 v7 hg7; have HG7 := Lib.hid hg7; clear hg7))
        have hb7 := HG7.out.below HBe.out hba (fun g e => (HOwn.out.blk g e).1)
        have hown7 := HG7.out.own
        rw [List.nil_append, Nat.zero_add] at hown7
        have hP7 := HP5.out.keep hb7
        have h07 := HH05.out.below hb7
        have h17 := HH15.out.below hb7
        have hq7 := HHq.out.below hb7
        have hi7 : Item v7 (Okb z w.heap.size (Value.slice A' n' cap').ownBlock) (.slice A7 l.length c7) l := by
          have hs5 := HP5.out.size
          have hrb := HP5.out.row.blk
          have hs7 := hb7.size
          refine hown7.item_ rfl (by omega) (fun g hg => ⟨.inr (by omega), fun e => ?_, by omega⟩)
          have := (hrb g e.symm).2
          omega
        have hl7 : ¬ (8192 : Int) < (l.length : Int) := by omega
        have a07 := hq7.at_ 0 rfl
        have b07 := h07.at_ 1 rfl
        have b07' := h07.at_ 2 rfl
        have yl := h07.1
        have yf1 := h07.2.2 1
        have yf2 := h07.2.2 2
        have HP8 := Lib.hid hP7
        have HH08 := Lib.hid h07
        have HH18 := Lib.hid h17
        have HI8 := Lib.hid hi7
        clear hown7 hP7 h07 h17 hq7 hi7 a0 a1 d1 d2 a1e hr6 hown
        go_wp2_with fail
        go_roundw
        case rel =>
          refine ⟨k + 1, (L, some l), by omega, by go_num, PAt.open_ HH08.out HH18.out HP8.out HI8.out, (fun x e => by injection e with e; subst e; omega), ?_, ?_⟩
          · show L.length ≤ nw + (k + 1)
            omega
          · exact Lib.hid HSteps.out
        case measure => simp [intOf]; omega
      · cases o with
        | none =>
          have hres : Fg.steps K s = none := by
            have h := HSteps.out
            simp [Fg.jstep] at h
            exact h
          have HRes := Lib.hid hres
          have hP7 := HP5.out
          have h07 := HH05.out
          have h17 := HH15.out
          clear hres
          have yl := h17.1
          have e0 := h17.at_ 0 rfl
          have e1 := h17.at_ 1 rfl
          have e2 := h17.at_ 2 rfl
          have yf0 := h17.2.2 0
          have yf1 := h17.2.2 1
          have yf2 := h17.2.2 2
          have a07 := HHq.out.at_ 0 rfl
          have hz := ((h17.set 0 (.slice none 0 0) (by simp)).set 1 (.bool false) (by simp)).set 2 (.slice none 0 0) (by simp)
          have HZ := Lib.hid hz
          have HB8 := Lib.hid hP7.below
          clear hP7 h17 h07 hz a1e hr6 hown
          go_wp2_with fail
          clear e0 e1 e2 yf0 yf1 yf2
          have e0 := HZ.out.at_ 0 rfl
          have e1 := HZ.out.at_ 1 rfl
          have e2 := HZ.out.at_ 2 rfl
          (try simp only [Exit.inBlock, Exit.then])
          refine bodyPost_ret (v := .tuple #[.agg #[.slice none 0 0, .bool false, .slice none 0 0], .bool false]) ?_ rfl ?_
          · rw [results_cell_tmp rfl]
            go_simp
          · rw [HRes.out]
            exact ⟨((HB8.out.setCell (p := ⟨w.heap.size + 1, 0, none⟩) (by simp) _).setCell (p := ⟨w.heap.size + 1, 1, none⟩) (by simp) _).setCell (p := ⟨w.heap.size + 1, 2, none⟩) (by simp) _, rfl⟩
        | some y =>
          have hry : Rd w5 B' m' y ∧ y.length = m' := by
            obtain ⟨B0, c0, e, h1, h2, h3, h4⟩ := HBg.out y rfl
            injection e with e1 e2 e3
            subst e1 e2 e3
            exact ⟨h1, rfl⟩
          obtain ⟨hry, rfl⟩ := hry
          have hy8 : y.length ≤ 8192 := HF'.out y rfl
          go_upto_region 9 with (first | (at_builtin; refine wpList_appB rfl (.tmp 38) (.tmp 40) rfl rfl hown PB l.length pc l rfl hr6 hl9 hba ?_; intro A7 c7 v7 hg7; have HG7 := Lib.hid hg7; clear hg7))
          have hb7 := HG7.out.below HBe.out hba (fun g e => (HOwn.out.blk g e).1)
          have hown7 := HG7.out.own
          rw [List.nil_append, Nat.zero_add] at hown7
          have hP7 := HP5.out.keep hb7
          have h07 := HH05.out.below hb7
          have h17 := HH15.out.below hb7
          have hq7 := HHq.out.below hb7
          have hbf : Below v7.heap.size v7 ((v7.alloc (.cells #[] 5)).drew) := ((Below.refl _ _).alloc (Nat.le_refl _) _).drew
          have hbfa : Below v7.heap.size v7 (v7.alloc (.cells #[] 5)) := (Below.refl _ _).alloc (Nat.le_refl _) _
          have hbfd : Below v7.heap.size v7 v7.drew := (Below.refl _ _).drew
          have g1 := (hq7.below hbfd).at_ 1 rfl
          have g2 := (h07.below hbfd).at_ 2 rfl
          have g1a := (hq7.below hbfa).at_ 1 rfl
          have g2a := (h07.below hbfa).at_ 2 rfl
          have hownf : Own ((v7.alloc (.cells #[] 5)).drew) v7.heap.size (some ⟨v7.heap.size, 0, none⟩) 0 0 [] := own_empty v7 v7.heap.size (Nat.le_refl _)
          have hryf := hry.below (hb7.trans (hbf.mono hb7.size))
          have hlf : 0 + y.length ≤ 100000000 := by omega
          have hbaf := hbf.size
          have HQ7 := Lib.hid hq7
          have HBf := Lib.hid hbf
          have HOwnf := Lib.hid hownf
          have HP7 := Lib.hid hP7
          have HH07 := Lib.hid h07
          have HH17 := Lib.hid h17
          have HB7 := Lib.hid hb7
          have hlg : y.length + l.length ≤ 100000000 := by omega
          have hrlw := HRd.out
          have hpw := HP5.out.below
          clear hb7 hown7 hP7 h07 h17 hq7 hbf hbfa hbfd hry a0 a1 d1 d2 a1e hr6 hown
          have a07 := HQ7.out.at_ 0 rfl
          go_wp2_with fail
          clear a07
          go_region_law ((first | (refine step_appB (by rfl) 53 rfl (.tmp 50) (.tmp 52) rfl rfl hownf B' y.length c' y rfl hryf hlf hbaf ?_; intro A8 c8 v8 hg8; have hb8 := hg8.below HBf.out hbaf (fun g e => (HOwnf.out.blk g e).1); have hown8 := hg8.own; rw [List.nil_append, Nat.zero_add] at hown8; have hs8 : v7.heap.size ≤ v8.heap.size := hb8.size; have g18 := (HQ7.out.below hb8).at_ 1 rfl; have hrl8 := (hrlw.below hpw).below (HB7.out.trans (hb8.mono HB7.out.size)); have HB8 := Lib.hid hb8; clear hb8 hg8) | (refine step_appB (by rfl) 56 rfl (.tmp 53) (.tmp 55) rfl rfl hown8 PB l.length pc l rfl hrl8 hlg hs8 ?_; intro A10 c10 v10 hg10; have hb10 := hg10.below HB8.out hs8 (fun g e => (hown8.blk g e).1); have hown10 := hg10.own; have HB10 := Lib.hid hb10; have HOwn10 := Lib.hid hown10; clear hb10 hown10 hg10)))
          all_goals
            have hb7 := HB7.out.trans (HB10.out.mono HB7.out.size)
            have hb10 := HB10.out
            have hown10 := HOwn10.out
            rw [show y.length + l.length = (y ++ l).length by rw [List.length_append]] at hown10 ⊢
            generalize hcur : y ++ l = cur at *
            have hcl : cur.length = y.length + l.length := by rw [← hcur, List.length_append]
            have hP7 := HP7.out.keep hb10
            have h07 := HH07.out.below hb10
            have h17 := HH17.out.below hb10
            have hq7 := HQ7.out.below hb10
            clear HP7 HH07 HH17 HQ7 HOwn10 HB10
            have h8c : 8192 < cur.length ∨ ¬ 8192 < cur.length := by omega
            have HCl := Lib.hid hcl
            clear hcl
            rcases h8c with h8 | h8
            · have hl7 : (8192 : Int) < (cur.length : Int) := by omega
              have hres : Fg.steps K s = none := by
                have hcl := HCl.out
                have h9 : 8192 < y.length + l.length := by omega
                have h := HSteps.out
                simp [Fg.jstep, h9] at h
                exact h
              have HRes := Lib.hid hres
              clear hres
              have yl := h17.1
              have e0 := h17.at_ 0 rfl
              have e1 := h17.at_ 1 rfl
              have e2 := h17.at_ 2 rfl
              have yf0 := h17.2.2 0
              have yf1 := h17.2.2 1
              have yf2 := h17.2.2 2
              have a07 := hq7.at_ 0 rfl
              have hz := ((h17.set 0 (.slice none 0 0) (by simp)).set 1 (.bool false) (by simp)).set 2 (.slice none 0 0) (by simp)
              have HZ := Lib.hid hz
              have HB8 := Lib.hid hP7.below
              clear hP7 h17 h07 hz hb7 hb10 hown10 hq7
              go_wp2_with fail
              clear e0 e1 e2 yf0 yf1 yf2
              have e0 := HZ.out.at_ 0 rfl
              have e1 := HZ.out.at_ 1 rfl
              have e2 := HZ.out.at_ 2 rfl
              (try simp only [Exit.inBlock, Exit.then])
              refine bodyPost_ret (v := .tuple #[.agg #[.slice none 0 0, .bool false, .slice none 0 0], .bool false]) ?_ rfl ?_
              · rw [results_cell_tmp rfl]
                go_simp
              · rw [HRes.out]
                exact ⟨((HB8.out.setCell (p := ⟨w.heap.size + 1, 0, none⟩) (by simp) _).setCell (p := ⟨w.heap.size + 1, 1, none⟩) (by simp) _).setCell (p := ⟨w.heap.size + 1, 2, none⟩) (by simp) _, rfl⟩
            · have hl7 : ¬ (8192 : Int) < (cur.length : Int) := by omega
              have hi7 : Item v10 (Okb z w.heap.size (Value.slice A' n' cap').ownBlock) (.slice A10 cur.length c10) cur := by
                have hs5 := HP5.out.size
                have hrb := HP5.out.row.blk
                have hs7 := HB7.out.size
                refine hown10.item_ rfl (by omega) (fun g hg => ⟨.inr (by omega), fun e => ?_, by omega⟩)
                have := (hrb g e.symm).2
                omega
              have a07 := hq7.at_ 0 rfl
              have b07 := h07.at_ 1 rfl
              have b07' := h07.at_ 2 rfl
              have yl := h07.1
              have yf1 := h07.2.2 1
              have yf2 := h07.2.2 2
              have HP8 := Lib.hid hP7
              have HH08 := Lib.hid h07
              have HH18 := Lib.hid h17
              have HI8 := Lib.hid hi7
              clear hown10 hP7 h07 h17 hq7 hi7 hb7 hb10
              go_wp2_with fail
              go_roundw
              case rel =>
                refine ⟨k + 1, (L, some cur), by omega, by go_num, PAt.open_ HH08.out HH18.out HP8.out HI8.out, (fun x e => by injection e with e; subst e; omega), ?_, ?_⟩
                · show L.length ≤ nw + (k + 1)
                  omega
                · exact (by
                    have hcl := HCl.out
                    have h9 : ¬ 8192 < y.length + l.length := by omega
                    have h := HSteps.out
                    simp [Fg.jstep, h9, hcur] at h
                    exact Lib.hid h)
              case measure => simp [intOf]; omega
      · cases o with
        | none =>
          have hres : Fg.steps K s = none := by
            have h := HSteps.out
            simp [Fg.jstep] at h
            exact h
          have HRes := Lib.hid hres
          have hP7 := HP5.out
          have h07 := HH05.out
          have h17 := HH15.out
          clear hres
          have yl := h17.1
          have e0 := h17.at_ 0 rfl
          have e1 := h17.at_ 1 rfl
          have e2 := h17.at_ 2 rfl
          have yf0 := h17.2.2 0
          have yf1 := h17.2.2 1
          have yf2 := h17.2.2 2
          have a07 := HHq.out.at_ 0 rfl
          have hz := ((h17.set 0 (.slice none 0 0) (by simp)).set 1 (.bool false) (by simp)).set 2 (.slice none 0 0) (by simp)
          have HZ := Lib.hid hz
          have HB8 := Lib.hid hP7.below
          clear hP7 h17 h07 hz a1e hr6 hown
          go_wp2_with fail
          clear e0 e1 e2 yf0 yf1 yf2
          have e0 := HZ.out.at_ 0 rfl
          have e1 := HZ.out.at_ 1 rfl
          have e2 := HZ.out.at_ 2 rfl
          (try simp only [Exit.inBlock, Exit.then])
          refine bodyPost_ret (v := .tuple #[.agg #[.slice none 0 0, .bool false, .slice none 0 0], .bool false]) ?_ rfl ?_
          · rw [results_cell_tmp rfl]
            go_simp
          · rw [HRes.out]
            exact ⟨((HB8.out.setCell (p := ⟨w.heap.size + 1, 0, none⟩) (by simp) _).setCell (p := ⟨w.heap.size + 1, 1, none⟩) (by simp) _).setCell (p := ⟨w.heap.size + 1, 2, none⟩) (by simp) _, rfl⟩
        | some y =>
          have hry : Rd w5 B' m' y ∧ y.length = m' := by
            obtain ⟨B0, c0, e, h1, h2, h3, h4⟩ := HBg.out y rfl
            injection e with e1 e2 e3
            subst e1 e2 e3
            exact ⟨h1, rfl⟩
          obtain ⟨hry, rfl⟩ := hry
          have hy8 : y.length ≤ 8192 := HF'.out y rfl
          go_upto_region 9 with (first | (at_builtin; refine wpList_appB rfl (.tmp 38) (.tmp 40) rfl rfl hown PB l.length pc l rfl hr6 hl9 hba ?_; intro A7 c7 v7 hg7; have HG7 := Lib.hid hg7; clear hg7))
          have hb7 := HG7.out.below HBe.out hba (fun g e => (HOwn.out.blk g e).1)
          have hown7 := HG7.out.own
          rw [List.nil_append, Nat.zero_add] at hown7
          have hP7 := HP5.out.keep hb7
          have h07 := HH05.out.below hb7
          have h17 := HH15.out.below hb7
          have hq7 := HHq.out.below hb7
          have hbf : Below v7.heap.size v7 ((v7.alloc (.cells #[] 5)).drew) := ((Below.refl _ _).alloc (Nat.le_refl _) _).drew
          have hbfa : Below v7.heap.size v7 (v7.alloc (.cells #[] 5)) := (Below.refl _ _).alloc (Nat.le_refl _) _
          have hbfd : Below v7.heap.size v7 v7.drew := (Below.refl _ _).drew
          have g1 := (hq7.below hbfd).at_ 1 rfl
          have g2 := (h07.below hbfd).at_ 2 rfl
          have g1a := (hq7.below hbfa).at_ 1 rfl
          have g2a := (h07.below hbfa).at_ 2 rfl
          have hownf : Own ((v7.alloc (.cells #[] 5)).drew) v7.heap.size (some ⟨v7.heap.size, 0, none⟩) 0 0 [] := own_empty v7 v7.heap.size (Nat.le_refl _)
          have hryf := hry.below (hb7.trans (hbf.mono hb7.size))
          have hlf : 0 + y.length ≤ 100000000 := by omega
          have hbaf := hbf.size
          have HQ7 := Lib.hid hq7
          have HBf := Lib.hid hbf
          have HOwnf := Lib.hid hownf
          have HP7 := Lib.hid hP7
          have HH07 := Lib.hid h07
          have HH17 := Lib.hid h17
          have HB7 := Lib.hid hb7
          have hlg : y.length + l.length ≤ 100000000 := by omega
          have hrlw := HRd.out
          have hpw := HP5.out.below
          clear hb7 hown7 hP7 h07 h17 hq7 hbf hbfa hbfd hry a0 a1 d1 d2 a1e hr6 hown
          have a07 := HQ7.out.at_ 0 rfl
          go_wp2_with fail
          clear a07
          go_region_law ((first | (refine step_appB (by rfl) 53 rfl (.tmp 50) (.tmp 52) rfl rfl hownf B' y.length c' y rfl hryf hlf hbaf ?_; intro A8 c8 v8 hg8; have hb8 := hg8.below HBf.out hbaf (fun g e => (HOwnf.out.blk g e).1); have hown8 := hg8.own; rw [List.nil_append, Nat.zero_add] at hown8; have hs8 : v7.heap.size ≤ v8.heap.size := hb8.size; have g18 := (HQ7.out.below hb8).at_ 1 rfl; have hrl8 := (hrlw.below hpw).below (HB7.out.trans (hb8.mono HB7.out.size)); have HB8 := Lib.hid hb8; clear hb8 hg8) | (refine step_appB (by rfl) 56 rfl (.tmp 53) (.tmp 55) rfl rfl hown8 PB l.length pc l rfl hrl8 hlg hs8 ?_; intro A10 c10 v10 hg10; have hb10 := hg10.below HB8.out hs8 (fun g e => (hown8.blk g e).1); have hown10 := hg10.own; have HB10 := Lib.hid hb10; have HOwn10 := Lib.hid hown10; clear hb10 hown10 hg10)))
          all_goals
            have hb7 := HB7.out.trans (HB10.out.mono HB7.out.size)
            have hb10 := HB10.out
            have hown10 := HOwn10.out
            rw [show y.length + l.length = (y ++ l).length by rw [List.length_append]] at hown10 ⊢
            generalize hcur : y ++ l = cur at *
            have hcl : cur.length = y.length + l.length := by rw [← hcur, List.length_append]
            have hP7 := HP7.out.keep hb10
            have h07 := HH07.out.below hb10
            have h17 := HH17.out.below hb10
            have hq7 := HQ7.out.below hb10
            clear HP7 HH07 HH17 HQ7 HOwn10 HB10
            have h8c : 8192 < cur.length ∨ ¬ 8192 < cur.length := by omega
            have HCl := Lib.hid hcl
            clear hcl
            rcases h8c with h8 | h8
            · have hl7 : (8192 : Int) < (cur.length : Int) := by omega
              have hres : Fg.steps K s = none := by
                have hcl := HCl.out
                have h9 : 8192 < y.length + l.length := by omega
                have h := HSteps.out
                simp [Fg.jstep, h9] at h
                exact h
              have HRes := Lib.hid hres
              clear hres
              have yl := h17.1
              have e0 := h17.at_ 0 rfl
              have e1 := h17.at_ 1 rfl
              have e2 := h17.at_ 2 rfl
              have yf0 := h17.2.2 0
              have yf1 := h17.2.2 1
              have yf2 := h17.2.2 2
              have a07 := hq7.at_ 0 rfl
              have hz := ((h17.set 0 (.slice none 0 0) (by simp)).set 1 (.bool false) (by simp)).set 2 (.slice none 0 0) (by simp)
              have HZ := Lib.hid hz
              have HB8 := Lib.hid hP7.below
              clear hP7 h17 h07 hz hb7 hb10 hown10 hq7
              go_wp2_with fail
              clear e0 e1 e2 yf0 yf1 yf2
              have e0 := HZ.out.at_ 0 rfl
              have e1 := HZ.out.at_ 1 rfl
              have e2 := HZ.out.at_ 2 rfl
              (try simp only [Exit.inBlock, Exit.then])
              refine bodyPost_ret (v := .tuple #[.agg #[.slice none 0 0, .bool false, .slice none 0 0], .bool false]) ?_ rfl ?_
              · rw [results_cell_tmp rfl]
                go_simp
              · rw [HRes.out]
                exact ⟨((HB8.out.setCell (p := ⟨w.heap.size + 1, 0, none⟩) (by simp) _).setCell (p := ⟨w.heap.size + 1, 1, none⟩) (by simp) _).setCell (p := ⟨w.heap.size + 1, 2, none⟩) (by simp) _, rfl⟩
            · have hl7 : ¬ (8192 : Int) < (cur.length : Int) := by omega
              have hi7 : Item v10 (Okb z w.heap.size (Value.slice A' n' cap').ownBlock) (.slice A10 cur.length c10) cur := by
                have hs5 := HP5.out.size
                have hrb := HP5.out.row.blk
                have hs7 := HB7.out.size
                refine hown10.item_ rfl (by omega) (fun g hg => ⟨.inr (by omega), fun e => ?_, by omega⟩)
                have := (hrb g e.symm).2
                omega
              have a07 := hq7.at_ 0 rfl
              have b07 := h07.at_ 0 rfl
              have hn7 : n' + 1 ≤ 1000000 := by
                have h1 := hP7.row.1
                have h2 : vs'.length = L.length := hP7.items.1
                omega
              have hbp : Below v10.heap.size v10 (v10.alloc (.cells #[.slice A10 cur.length c10] 29)) := (Below.refl _ _).alloc (Nat.le_refl _) _
              have hP8 := hP7.keep hbp
              have h08 := h07.below hbp
              have h18 := h17.below hbp
              have hi8 := hi7.below hbp
              have b08 := h08.at_ 0 rfl
              have hrow8 := hP8.row
              have hba8 := hP8.size
              have hra := rdv_one v10 29 (.slice A10 cur.length c10)
              have hone : ∀ u ∈ [Value.slice A10 cur.length c10], u.oneCell' = true := by intro u hu; rw [List.mem_singleton] at hu; subst hu; rfl
              have hblk8 := hrow8.blk
              have HP8 := Lib.hid hP8
              have HH08 := Lib.hid h08
              have HH18 := Lib.hid h18
              have HI8 := Lib.hid hi8
              have HBlk8 := Lib.hid hblk8
              clear hown10 hP7 h07 h17 hq7 hi7 hbp hP8 h08 h18 hi8 hblk8 hb7 hb10
              go_wp2_with (first | (at_builtin; refine wpList_appV oneB rfl (.tmp 70) (.tmp 72) rfl rfl hrow8 (some ⟨v10.heap.size, 0, none⟩) 1 1 [.slice A10 cur.length c10] hone rfl hra hn7 hba8 ?_; intro A9 c9 v9 hg9; have hP9 := HP8.out.push HI8.out hg9; have h09 := HH08.out.gr hg9.grew (fun e => by have := (HBlk8.out _ e.symm).1; omega); have h19 := HH18.out.gr hg9.grew (fun e => by have := (HBlk8.out _ e.symm).1; omega); have y0 := h09.at_ 0 rfl; have y1 := h09.at_ 1 rfl; have y2 := h09.at_ 2 rfl; have yl := h09.1; have yf0 := h09.2.2 0; have yf1 := h09.2.2 1; have yf2 := h09.2.2 2; have HP9 := Lib.hid hP9; have HH09 := Lib.hid h09; have HH19 := Lib.hid h19; clear hP9 h09 h19 hg9))
              go_roundw
              case rel =>
                refine ⟨k + 1, (L ++ [cur], none), by omega, by go_num, PAt.done HH09.out HH19.out HP9.out, (fun x e => by cases e), ?_, ?_⟩
                · have hm := hmany
                  simp at hm ⊢
                  omega
                · exact (by
                    have hcl := HCl.out
                    have h9 : ¬ 8192 < y.length + l.length := by omega
                    have h := HSteps.out
                    simp [Fg.jstep, h9, hcur] at h
                    exact Lib.hid h)
              case measure => simp [intOf]; omega
    · have hkn2 : k = np := by omega
      subst hkn2
      obtain ⟨A', n', cap', vs', B', m', c', H0, H1, hPa, hbeg⟩ := hPA
      have hres : Fg.steps K s = some s' := by rw [heq.out, List.drop_of_length_le (Nat.le_of_eq HP.out.1)]; rfl
      have a0 := H0.at_ 0 rfl
      have a1 := H0.at_ 1 rfl
      have a2 := H0.at_ 2 rfl
      have e0 := H1.at_ 0 rfl
      have e1 := H1.at_ 1 rfl
      have e2 := H1.at_ 2 rfl
      have yl := H1.1
      have yf0 := H1.2.2 0
      have yf1 := H1.2.2 1
      have yf2 := H1.2.2 2
      have hz := ((H1.set 0 (.slice A' n' cap') (by simp)).set 1 (.bool s'.2.isSome) (by simp)).set 2 (.slice B' m' c') (by simp)
      have HZ := Lib.hid hz
      have HPa := Lib.hid hPa
      have HBeg := Lib.hid hbeg
      have HRes := Lib.hid hres
      have HF9 := Lib.hid hF'
      clear hz hPa hbeg hres H0 H1 heq hF'
      go_wp2_with fail
      clear e0 e1 e2 yf0 yf1 yf2 a0 a1 a2
      have e0 := HZ.out.at_ 0 rfl
      have e1 := HZ.out.at_ 1 rfl
      have e2 := HZ.out.at_ 2 rfl
      (try simp only [Exit.inBlock, Exit.then])
      refine bodyPost_ret (v := .tuple #[.agg #[.slice A' n' cap', .bool s'.2.isSome, .slice B' m' c'], .bool true]) ?_ rfl ?_
      · rw [results_cell_tmp rfl]
        go_simp
      · rw [HRes.out]
        have hP9 := ((HPa.out.far (p := ⟨w.heap.size + 1, 0, none⟩) (.inr rfl) (.slice A' n' cap')).far (p := ⟨w.heap.size + 1, 1, none⟩) (.inr rfl) (.bool s'.2.isSome)).far (p := ⟨w.heap.size + 1, 2, none⟩) (.inr rfl) (.slice B' m' c')
        refine ⟨hP9.below, A', n', cap', B', m', c', rfl, hP9.row.fits, ⟨vs', hP9.row.rd, hP9.items.imp fun _ _ hx => hx.2.2, fun x hx => ?_⟩, fun b o e hn9 => by obtain ⟨g9, e9, h9, _⟩ := hP9.row.form hn9; rw [e] at e9; injection e9 with e9; injection e9 with e9 _; omega⟩
        exact ((((HBeg.out x hx).off (p := ⟨w.heap.size + 1, 0, none⟩) (.inr rfl) _).off (p := ⟨w.heap.size + 1, 1, none⟩) (.inr rfl) _).off (p := ⟨w.heap.size + 1, 2, none⟩) (.inr rfl) _).imp fun _ _ hx => hx.2.2
end Go.Proofs.Ytpfdacnjikdifaa
