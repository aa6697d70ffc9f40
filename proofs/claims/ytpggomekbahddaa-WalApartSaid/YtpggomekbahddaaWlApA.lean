/- WalApart: what stands beside the log, and what a step leaves of it. -/
import Derived.Test.YtpggomekbahddaaWlFull
import Derived.Test.YtpggomekbahddaaWlAwake
namespace Go.Proofs.Ytpggomekbahddaa
open Go.RowKit Fi Fr
set_option linter.unusedVariables false
set_option linter.unusedSimpArgs false
theorem At.grown {w0 v v' : World} {d lb n cp kind E rc c : Nat} {ad : Addr} {e : Int} {Ps : List (List Nat)} {lab : Nat → Tag} {st : Dk.St} {U : List Nat} {row : Option Nat} (h : At w0 v d lb ad n cp kind E e Ps rc c lab st U) (hg : v.grownBy v' row) (hr : ∀ g, row = some g → lab g = .no ∧ g ≠ lb ∧ g ≠ ad.block ∧ w0.heap.size ≤ g) : At w0 v' d lb ad n cp kind E e Ps rc c lab st U :=
  ⟨⟨h.ds.below.grown hg h.ds.below.size (fun g e => (hr g e).2.2.2), h.ds.disk.keep hg.size (fun k hk => by
      have hlt := h.ds.disk.old k hk
      exact hg.block k hlt (fun e => hk (hr k e.symm).1)), h.ds.labs, fun u hu => ⟨(h.ds.un u hu).1, Nat.lt_of_lt_of_le (h.ds.un u hu).2 hg.size⟩⟩,
    h.box.grown hg (fun e => (hr lb e.symm).2.1 rfl), h.rt.grownC hg (fun b o e e2 => by
      have h3 := (hr b e2).2.2.1
      injection e with e
      exact h3 (by rw [e])), h.lg, h.low, h.ne, h.old⟩
theorem Ds.also {w v : World} {d g : Nat} {lab : Nat → Tag} {st : Dk.St} {U : List Nat} (h : Ds w v d lab st U) (hg : lab g = .no ∧ g < v.heap.size) : Ds w v d lab st (g :: U) := ⟨h.below, h.disk, h.labs, fun u hu => by
  rcases List.mem_cons.1 hu with rfl | hu
  · exact hg
  · exact h.un u hu⟩
theorem Holds.chg {lab : Nat → Tag} {w v : World} {b : Nat} {cs : List Value} (k : Holds w b cs) (h : Chg lab w v) (hl : lab b = .no) : Holds v b cs := k.block h.size (h.block b k.1 hl)
/-- What Add leaves, whether there was room or not. -/
theorem add_any {w0 w w' : World} {d lb n cp kind E rc c : Nat} {ad : Addr} {e : Int} {Ps L : List (List Nat)} {lab : Nat → Tag} {st : Dk.St} {U : List Nat} {x : Ending} (hA : At w0 w d lb ad n cp kind E e Ps rc c lab st U) (h : GivesAddF w0 w d lb ad n cp kind E e Ps rc c lab st U L x w') (hL : L.length ≤ 6) :
    ∃ v, x = .returned (.int .i64 v) ∧ Kp lab lb w w' ∧ ∃ Ps' rc' c' lab' st', At w0 w' d lb ad n cp kind E e Ps' rc' c' lab' st' U ∧ Wl.Same n Ps.length st st' ∧ c' ≤ c + 49 ∧ rc' ≤ rc + 6 := by
  unfold GivesAddF at h
  have hn := hA.lg.n3
  by_cases hf : 8 * n - Ps.length < (Fg.cut L).length
  · rw [if_pos hf] at h
    obtain ⟨rfl, hb⟩ := h
    exact ⟨90, rfl, Kp.of_below hb, Ps, rc, c, lab, st, hA.next hb, Wl.Same.refl _ _ _, by omega, by omega⟩
  · rw [if_neg hf] at h
    obtain ⟨rfl, hK, lab', st', h1, h2⟩ := h
    exact ⟨0, rfl, hK, _, _, _, lab', st', h1, h2, by omega, by omega⟩
theorem at_of_open2 {w0 w v : World} {d n kind E c : Nat} {e : Int} {lab : Nat → Tag} {st : Dk.St} {Ps : List (List Nat)} {r : List (List Nat) × Nat} {x : Ending} (hd : Ds w0 w d lab st []) (hg : Wl.Lg st n kind E Ps) (hlow : st.low c) (h1 : 1 ≤ n) (hr2 : r.2 = Ps.length) (h : GivesLog w n kind d e (E : Int) r x v) :
    ∃ (lb : Nat) (ad : Addr) (cp : Nat) (R : Option Addr) (rc : Nat), x = .returned (.tuple #[.pointer (some ⟨lb, 0, none⟩), .slice R r.1.length rc, .int .i64 0]) ∧ At w0 v d lb ad n cp kind E e Ps r.1.length c lab st [] ∧ w.heap.size ≤ lb ∧ w.heap.size ≤ ad.block ∧ Below w.heap.size w v := by
  obtain ⟨hb, lb, A, cp, R, rc, rfl, hlb, hbx, hA, hnw, hR, hrc, _⟩ := h
  obtain ⟨b, o, rfl, hbv, _⟩ := hA.2 (by omega)
  obtain ⟨h2, h3⟩ := hnw b o rfl
  have hds := hd.next hb
  rw [hr2] at hbx
  refine ⟨lb, ⟨b, o, none⟩, cp, R, rc, rfl, ⟨⟨hds.below, hds.disk, hds.labs, fun u hu => ?_⟩, hbx, hA, hg, hlow, h3, Nat.le_trans hd.below.size hlb⟩, hlb, h2, hb⟩
  rcases List.mem_cons.1 hu with rfl | hu
  · exact ⟨hd.disk.new_ hlb, hbx.1⟩
  · rcases List.mem_cons.1 hu with rfl | hu
    · exact ⟨hd.disk.new_ h2, hbv⟩
    · cases hu
theorem oneStr : One 41 9 (.string ⟨#[]⟩) 16 := ⟨by kernel_rfl, Try.underlying41, rfl, by decide⟩
theorem oneBl : One 44 4 (.bool false) 1 := ⟨by kernel_rfl, Try.underlying44, rfl, by decide⟩
theorem holds_made (w : World) (z : Value) (n : Nat) (T : TypeId) : Holds (w.alloc (.cells (madeCells #[z] n) T)) w.heap.size (List.replicate n z) := by
  have h := Holds.new w (madeCells #[z] n) T
  rwa [toList_madeCells_one] at h
theorem apart_write {w0 v : World} {x : Int} {d c a cp : Nat} {lab : Nat → Tag} {st : Dk.St} {U : List Nat} {A : Option Addr} {b : List Nat} (hx : x = (a : Int)) (h : Ds w0 v d lab st U) (hg : Wl.Lg st 2 2 1 []) (hl : st.low c) (hc : c ≤ 1000) (ha : a < 52) (hne : ∀ k : Nat, k < 16 → a ≠ Wl.sx k ∧ a ≠ Wl.sy k) (hb : Rd v A 128 b) :
    Calls Try.prog 7 #[.pointer (some ⟨d, 0, none⟩), .int .i64 x, .slice A 128 cp] v fun e v' => e = .returned (.int .i64 0) ∧ ∃ lab' st', Ds w0 v' d lab' st' U ∧ Chg lab v v' ∧ Wl.Lg st' 2 2 1 [] ∧ st'.low (c + 1) := by
  subst hx
  refine (write_any (a : Int) A 128 cp c b v d lab st h.disk hb hl hc (by omega)).mono ?_
  rintro e v' ⟨rfl, hL⟩
  obtain ⟨lab', h1, h2⟩ := h.left hL
  exact ⟨by rw [hg.free.writeE ha hb.1], lab', _, h1, h2, hg.other ha hb.1 (fun k hk => hne k (by omega)), low_write hl _ _⟩
theorem apart_sect (k b o cp : Nat) (v : World) (hk : k < 16) (hr : RdC 2 v (some ⟨b, o, none⟩) 2 (pv (Wl.pairs 2))) : Calls Try.prog 14 #[.agg #[.int .i64 7, .int .i64 1, .slice (some ⟨b, o, none⟩) 2 cp], .int .i64 (k : Int)] v fun e v' => e = .returned (.tuple #[.int .i64 (Wl.sx k : Int), .int .i64 (Wl.sy k : Int), .int .i64 0]) ∧ Below v.heap.size v v' := by
  have h := rsectors_any (Wl.pl 2 1) (k : Int) (some ⟨b, o, none⟩) cp v (by decide) hr
  rw [Wl.fr_at 1 (by omega) (by omega)] at h
  exact h
theorem apart_frames (b o cp : Nat) (v : World) : Calls Try.prog 13 #[.agg #[.int .i64 7, .int .i64 1, .slice (some ⟨b, o, none⟩) 2 cp]] v fun e v' => e = .returned (.int .i64 16) ∧ Below v.heap.size v v' :=
  (rframes_any (Wl.pl 2 1) (some ⟨b, o, none⟩) cp v (by decide)).mono (by rintro e v' ⟨rfl, h⟩; exact ⟨rfl, h⟩)
/-- The log, and the statement's place. -/
structure Ap (w0 v : World) (d lb : Nat) (ad : Addr) (cl : Nat) (Ps : List (List Nat)) (rc c : Nat) (lab : Nat → Tag) (st : Dk.St) (q b o cp : Nat) : Prop where
  at_ : At w0 v d lb ad 2 cl 2 1 1 Ps rc c lab st [q, b]
  pl : Holds v q [.int .i64 7, .int .i64 1, .slice (some ⟨b, o, none⟩) 2 cp]
  rt : RdC 2 v (some ⟨b, o, none⟩) 2 (pv (Wl.pairs 2))
  ne : q ≠ lb ∧ b ≠ lb
section
variable {w0 v v' : World} {d lb cl rc c q b o cp : Nat} {ad : Addr} {Ps : List (List Nat)} {lab : Nat → Tag} {st : Dk.St}
theorem Ap.next (h : Ap w0 v d lb ad cl Ps rc c lab st q b o cp) (hb : Below v.heap.size v v') : Ap w0 v' d lb ad cl Ps rc c lab st q b o cp := ⟨h.at_.next hb, h.pl.below hb, h.rt.below hb, h.ne⟩
/-- A block that lies behind all of these. -/
structure Off (w0 : World) (lb : Nat) (ad : Addr) (lab : Nat → Tag) (q b g : Nat) : Prop where
  lab : lab g = .no
  lt : lb < g ∧ ad.block < g ∧ q < g ∧ b < g
  old : w0.heap.size ≤ g
theorem Ap.off (h : Ap w0 v d lb ad cl Ps rc c lab st q b o cp) : Off w0 lb ad lab q b v.heap.size :=
  ⟨h.at_.ds.disk.new_ (Nat.le_refl _), ⟨h.at_.box.1, (h.at_.ds.un ad.block (by simp)).2, h.pl.1, (h.at_.ds.un b (by simp)).2⟩, h.at_.ds.below.size⟩
theorem Ap.cell {g i : Nat} {u : Value} (h : Ap w0 v d lb ad cl Ps rc c lab st q b o cp) (hg : Off w0 lb ad lab q b g) : Ap w0 (v.setCell ⟨g, i, none⟩ u) d lb ad cl Ps rc c lab st q b o cp := by
  obtain ⟨g1, ⟨g2, g3, g4, g5⟩, g6⟩ := hg
  exact ⟨h.at_.grown (grown_cell v g i u) (fun g' e => by injection e with e; subst e; exact ⟨g1, by omega, by omega, g6⟩), h.pl.other (by omega), h.rt.grownC (grown_cell v g i u) (fun b' o' e e2 => by injection e with e; injection e with e3 e4; injection e2 with e2; omega), h.ne⟩
theorem Ap.kp {Ps' : List (List Nat)} {rc' c' : Nat} {lab' : Nat → Tag} {st' : Dk.St} (h : Ap w0 v d lb ad cl Ps rc c lab st q b o cp) (hK : Kp lab lb v v') (hA : At w0 v' d lb ad 2 cl 2 1 1 Ps' rc' c' lab' st' [q, b]) : Ap w0 v' d lb ad cl Ps' rc' c' lab' st' q b o cp :=
  ⟨hA, hK.holds h.pl (h.at_.ds.un q (by simp)).1 h.ne.1, hK.rdc h.rt (fun b' o' e => by injection e with e; injection e with e3 e4; subst e3; exact ⟨(h.at_.ds.un b (by simp)).1, h.ne.2⟩), h.ne⟩
end
/-- The strings of the first k sectors. -/
def Kept (v : World) (kb : Nat) (st : Dk.St) (k : Nat) : Prop := ∃ cs, Holds v kb cs ∧ cs.length = 52 ∧ ∀ a : Nat, a < k → cs[a]? = some (.string (str (st.readB (a : Int))))
section
variable {v v' : World} {kb k : Nat} {st : Dk.St}
theorem Kept.made (v : World) (st : Dk.St) (T : TypeId) : Kept (v.alloc (.cells (madeCells #[.string ⟨#[]⟩] 52) T)) v.heap.size st 0 := ⟨_, holds_made v _ 52 T, by simp, fun a h => by omega⟩
theorem Kept.next (h : Kept v kb st k) (hb : Below v.heap.size v v') : Kept v' kb st k := by obtain ⟨cs, h1, h2, h3⟩ := h; exact ⟨cs, h1.below hb, h2, h3⟩
theorem Kept.other (h : Kept v kb st k) {g i : Nat} {u : Value} (hg : kb ≠ g) : Kept (v.setCell ⟨g, i, none⟩ u) kb st k := by obtain ⟨cs, h1, h2, h3⟩ := h; exact ⟨cs, h1.other hg, h2, h3⟩
theorem Kept.kp {lab : Nat → Tag} {lb : Nat} (h : Kept v kb st k) (hK : Kp lab lb v v') (hl : lab kb = .no) (hn : kb ≠ lb) : Kept v' kb st k := by obtain ⟨cs, h1, h2, h3⟩ := h; exact ⟨cs, hK.holds h1 hl hn, h2, h3⟩
theorem Kept.set (h : Kept v kb st k) (hk : k < 52) : Kept (v.setCell ⟨kb, k, none⟩ (.string (str (st.readB (k : Int))))) kb st (k + 1) := by
  obtain ⟨cs, h1, h2, h3⟩ := h
  refine ⟨_, h1.set k _ (by omega), by simp [h2], fun a ha => ?_⟩
  by_cases e : a = k
  · subst e
    rw [List.getElem?_set_self (by omega)]
  · rw [List.getElem?_set_ne (by omega)]
    exact h3 a (by omega)
theorem Kept.cell (h : Kept v kb st k) {a : Nat} (ha : a < 52) : (∃ z, v.cell? ⟨kb, a, none⟩ = some z) ∧ v.frozen? ⟨kb, a, none⟩ = false := by
  obtain ⟨cs, h1, h2, h3⟩ := h
  exact ⟨⟨_, h1.at_ a (List.getElem?_eq_getElem (by omega))⟩, h1.2.2 a⟩
theorem Kept.at_ (h : Kept v kb st 52) {a : Nat} (ha : a < 52) : v.cell? ⟨kb, a, none⟩ = some (.string (str (st.readB (a : Int)))) := by
  obtain ⟨cs, h1, h2, h3⟩ := h
  exact h1.at_ a (h3 a ha)
end
/-- The sectors of the frames from t to k are told. -/
def Owns (v : World) (ob t k : Nat) : Prop := ∃ bs, Holds v ob bs ∧ bs.length = 52 ∧ ∀ a : Nat, a < 52 → ∃ x, bs[a]? = some (.bool x) ∧ (x = false → ∀ j : Nat, t ≤ j → j < k → a ≠ Wl.sx j ∧ a ≠ Wl.sy j)
section
variable {v v' : World} {ob t k : Nat}
theorem Owns.made (v : World) (t : Nat) (T : TypeId) : Owns (v.alloc (.cells (madeCells #[.bool false] 52) T)) v.heap.size t t := ⟨_, holds_made v _ 52 T, by simp, fun a h => ⟨false, by rw [List.getElem?_replicate, if_pos h], fun _ j h1 h2 => by omega⟩⟩
theorem Owns.next (h : Owns v ob t k) (hb : Below v.heap.size v v') : Owns v' ob t k := by obtain ⟨cs, h1, h2⟩ := h; exact ⟨cs, h1.below hb, h2⟩
theorem Owns.cell (h : Owns v ob t k) {a : Nat} (ha : a < 52) : (∃ z, v.cell? ⟨ob, a, none⟩ = some z) ∧ v.frozen? ⟨ob, a, none⟩ = false := by
  obtain ⟨cs, h1, h2, h3⟩ := h
  exact ⟨⟨_, h1.at_ a (List.getElem?_eq_getElem (by omega))⟩, h1.2.2 a⟩
theorem Owns.at_ (h : Owns v ob t k) {a : Nat} (ha : a < 52) : ∃ x, v.cell? ⟨ob, a, none⟩ = some (.bool x) ∧ (x = false → ∀ j : Nat, t ≤ j → j < k → a ≠ Wl.sx j ∧ a ≠ Wl.sy j) := by
  obtain ⟨cs, h1, h2, h3⟩ := h
  obtain ⟨x, h4, h5⟩ := h3 a ha
  exact ⟨x, h1.at_ a h4, h5⟩
theorem Owns.two (h : Owns v ob t k) (hk : k < 24) : Owns ((v.setCell ⟨ob, Wl.sx k, none⟩ (.bool true)).setCell ⟨ob, Wl.sy k, none⟩ (.bool true)) ob t (k + 1) := by
  obtain ⟨bs, h1, h2, h3⟩ := h
  obtain ⟨x1, x2, _⟩ := Wl.sx_lt hk
  refine ⟨_, (h1.set (Wl.sx k) (.bool true) (by omega)).set (Wl.sy k) (.bool true) (by simp; omega), by simp [h2], fun a ha => ?_⟩
  by_cases e1 : a = Wl.sy k
  · subst e1
    exact ⟨true, by rw [List.getElem?_set_self (by simp; omega)], fun h => by cases h⟩
  · rw [List.getElem?_set_ne (by omega)]
    by_cases e2 : a = Wl.sx k
    · subst e2
      exact ⟨true, by rw [List.getElem?_set_self (by omega)], fun h => by cases h⟩
    · rw [List.getElem?_set_ne (by omega)]
      obtain ⟨x, h4, h5⟩ := h3 a ha
      refine ⟨x, h4, fun hx j hj1 hj2 => ?_⟩
      by_cases e3 : j = k
      · subst e3
        exact ⟨e2, e1⟩
      · exact h5 hx j hj1 (by omega)
end
end Go.Proofs.Ytpggomekbahddaa
