/- Slices of ops that came in. -/
import Derived.Test.YtamdihodconjiaaDkOpen
import Derived.Test.YtamdihodconjiaaStructsI
namespace Go.Proofs.Ytamdihodconjiaa
open Go.ChangeShapes Go.WideShapes Go.ChangeAt Go.RowKit Go.Deep
section
variable {H : Type} {enc : TypeId × Value → H} {W : World} {base : Nat} {v : Value} {d : DataW H} {p : List MemPlace}
theorem one_bool {f : Nat} {c : Value} {y : DataW H × List MemPlace} {sp : Nat → Bool} {hd : Bool} (h : DataW.trod enc Try.prog W 0 sp hd f 4 [c] = some y) : ∃ b : Bool, c = .bool b := by
  obtain ⟨a, e0, _⟩ := DataW.trod_bool Try.underlying4 h
  simp at e0
  exact ⟨a, e0⟩
set_option maxRecDepth 100000 in
theorem field_bytes (h : Field1 enc W 35 v) : ∃ (A : Option Addr) (n cap : Nat) (l : List Nat), v = .slice A n cap ∧ Rd W A n l ∧ n ≤ cap ∧ n ≤ 9223372036854775807 := by
  obtain ⟨fuel, y, hf⟩ := h
  rcases open_ints Try.underlying35 Try.underlying5 (by kernel_rfl) hf with ⟨hcs, _⟩ | ⟨x, l, c, zs, hcs, _, hl, hm, hz, _, hcell, hwz⟩
  · injection hcs with hcs _
    exact ⟨none, 0, 0, [], hcs, Rd.nil _ _, Nat.le_refl _, by omega⟩
  · injection hcs with hcs _
    obtain ⟨r, hr, hc, hn⟩ := row_rd (w := W) (a := some x) (len := l) (cap := c) (zs := zs) (.inr ⟨_, rfl, hl, hm, by simpa using hz, hcell, hwz⟩)
    exact ⟨some x, l, c, r, hcs, hr, hc, hn⟩
set_option maxRecDepth 100000 in
set_option maxRecDepth 100000 in
theorem field_structs {t e : TypeId} {fs : Array Field} (ht : Try.prog.underlying t = some (.slice e)) (he : Try.prog.underlying e = some (.struct fs)) (hone : oneCellFields Try.prog fs = true) (hC : Try.prog.cellsOf e = fs.size) (hpos : 0 < fs.size)
    (h : Field1 enc W t v) :
    ∃ (A : Option Addr) (n cap : Nat), v = .slice A n cap ∧ n ≤ cap ∧ n ≤ 9223372036854775807 ∧ (0 < n → ∃ b o, A = some ⟨b, o, none⟩ ∧ b < W.heap.size ∧ ∀ i, i < n → ∀ (j : Nat) (f : Field), fs[j]? = some f → ∃ u : Value, W.cell? ⟨b, o + (i * fs.size + j), none⟩ = some u ∧ Field1 enc W f.type u) := by
  obtain ⟨fuel, y, hf⟩ := h
  rcases open_slice ht hf with ⟨hcs, _⟩ | ⟨a, len0, cap0, m, k, D, Pl, hcs, hb, hl, hm, hmm, hx, hi⟩
  · injection hcs with hcs _
    exact ⟨none, 0, 0, hcs, Nat.le_refl _, by omega, fun h => absurd h (Nat.lt_irrefl 0)⟩
  · injection hcs with hcs _
    have hm' : m = cap0 := by simpa using hmm
    simp only [maxLen] at hm
    have each : ∀ i, i < len0 → ∀ (j : Nat) (f : Field), fs[j]? = some f → ∃ u : Value, W.cell? (a.add (i * fs.size + j)) = some u ∧ Field1 enc W f.type u := by
      intro i hin j f hj
      obtain ⟨cs, hc, htr⟩ := hi i (by omega)
      rw [hC] at hc
      obtain ⟨_, hcl, hat⟩ := World.cells?_some hc
      obtain ⟨xs, q, _, _, _, hxl, hfi⟩ := DataW.trod_struct he htr
      obtain ⟨off, one⟩ := hone_of hone j f hj
      have hj2 : j < fs.size := (Array.getElem?_eq_some_iff.1 hj).1
      have hcell := hat j hj2
      rw [Go.Deep.add_add, List.getElem?_eq_getElem (show j < cs.length by omega)] at hcell
      have hread := hfi j f hj
      rw [off, one, List.drop_eq_getElem_cons (show j < cs.length by omega), List.getElem?_eq_getElem (show j < xs.length by omega)] at hread
      exact ⟨_, hcell, q, _, hread⟩
    refine ⟨some a, len0, cap0, hcs, hl, by omega, fun hn => ?_⟩
    obtain ⟨f0, hf0⟩ : ∃ f, fs[0]? = some f := ⟨_, Array.getElem?_eq_getElem hpos⟩
    obtain ⟨u0, hu0, _⟩ := each 0 hn 0 f0 hf0
    rw [Nat.zero_mul, Nat.zero_add] at hu0
    obtain ⟨b, o, rfl⟩ := plain_addr hu0
    refine ⟨b, o, rfl, ?_, fun i hin j f hj => ?_⟩
    · rw [plain_add] at hu0
      exact block_lt_of_cell hu0
    · obtain ⟨u, hu, hu2⟩ := each i hin j f hj
      rw [plain_add] at hu
      exact ⟨u, hu, hu2⟩
theorem cells_fate : Try.prog.cellsOf 55 = 2 := by kernel_rfl
theorem flatFa_get {l : List Dk.Fa} : ∀ {j : Nat} {u : Value}, (flatFa l)[j]? = some u → ∃ q, l[j / 2]? = some q ∧ u = if j % 2 = 0 then .int .i64 q.k else .int .i64 q.c := by
  induction l with
  | nil => intro j u h; simp [flatFa] at h
  | cons x xs ih =>
    intro j u h
    match j, h with
    | 0, h => injection h with h; subst h; exact ⟨x, rfl, rfl⟩
    | 1, h => injection h with h; subst h; exact ⟨x, rfl, rfl⟩
    | j + 2, h =>
      have h : (flatFa xs)[j]? = some u := h
      obtain ⟨q, hq, hv⟩ := ih h
      refine ⟨q, ?_, ?_⟩
      · rw [show (j + 2) / 2 = j / 2 + 1 by omega, List.getElem?_cons_succ]; exact hq
      · rw [show (j + 2) % 2 = j % 2 by omega]; exact hv
set_option maxRecDepth 100000 in
theorem field_fates (h : Field1 enc W 36 v) : ∃ (A : Option Addr) (n cap : Nat) (l : List Dk.Fa), v = .slice A n cap ∧ l.length = n ∧ RdC 2 W A n (flatFa l) ∧ n ≤ cap ∧ n ≤ 9223372036854775807 := by
  obtain ⟨A, n, cap, rfl, hc, hn, hr⟩ := field_structs Try.underlying36 Try.underlying55 (by kernel_rfl) cells_fate (by decide) h
  by_cases h0 : 0 < n
  · obtain ⟨b, o, rfl, hb, he⟩ := hr h0
    obtain ⟨l, hl, hp⟩ := exists_list (α := Dk.Fa) (P := fun i s => W.cell? ⟨b, o + (i * 2 + 0), none⟩ = some (.int .i64 s.k) ∧ W.cell? ⟨b, o + (i * 2 + 1), none⟩ = some (.int .i64 s.c)) n (fun i hi => by
      obtain ⟨u0, c0, m0, y0, r0⟩ := he i hi 0 _ rfl
      obtain ⟨u1, c1, m1, y1, r1⟩ := he i hi 1 _ rfl
      obtain ⟨a0, rfl, w0⟩ := one_int Try.underlying3 r0
      obtain ⟨a1, rfl, w1⟩ := one_int Try.underlying3 r1
      exact ⟨⟨a0, a1⟩, c0, c1⟩)
    refine ⟨some ⟨b, o, none⟩, n, cap, l, rfl, hl, ⟨by rw [flatFa_length, hl], fun _ => ⟨b, o, rfl, hb, fun j u hu => ?_⟩⟩, hc, hn⟩
    obtain ⟨q, hq, hx⟩ := flatFa_get hu
    obtain ⟨c0, c1⟩ := hp _ _ hq
    by_cases hm : j % 2 = 0
    · rw [if_pos hm] at hx
      rw [hx, show o + j = o + (j / 2 * 2 + 0) by omega]
      exact c0
    · rw [if_neg hm] at hx
      rw [hx, show o + j = o + (j / 2 * 2 + 1) by omega]
      exact c1
  · have : n = 0 := by omega
    subst this
    exact ⟨A, 0, cap, [], rfl, rfl, RdC.nil 2 W A, hc, hn⟩
end
/-- An op, with the slices that it holds. -/
structure DOp where
  kind : Int
  at_ : Int
  A : Option Addr
  m : Nat
  c : Nat
  b : List Nat
  whole : Bool
  n : Int
  place : Int
  mask : Nat
  F : Option Addr
  fm : Nat
  fc : Nat
  fs : List Dk.Fa
/-- An op's cells at an address. -/
structure OpAt (w : World) (b o : Nat) (s : DOp) : Prop where
  c0 : w.cell? ⟨b, o + 0, none⟩ = some (.int .i64 s.kind)
  c1 : w.cell? ⟨b, o + 1, none⟩ = some (.int .i64 s.at_)
  c2 : w.cell? ⟨b, o + 2, none⟩ = some (.slice s.A s.m s.c)
  c3 : w.cell? ⟨b, o + 3, none⟩ = some (.bool s.whole)
  c4 : w.cell? ⟨b, o + 4, none⟩ = some (.int .i64 s.n)
  c5 : w.cell? ⟨b, o + 5, none⟩ = some (.int .i64 s.place)
  c6 : w.cell? ⟨b, o + 6, none⟩ = some (.int .u8 (s.mask : Int))
  c7 : w.cell? ⟨b, o + 7, none⟩ = some (.slice s.F s.fm s.fc)
  rb : Rd w s.A s.m s.b
  rf : RdC 2 w s.F s.fm (flatFa s.fs)
  mask : s.mask < 256
  fl : s.fs.length = s.fm
  mc : s.m ≤ s.c ∧ s.m ≤ 9223372036854775807
  fmc : s.fm ≤ s.fc ∧ s.fm ≤ 9223372036854775807
  at_ : -9223372036854775808 ≤ s.at_ ∧ s.at_ ≤ 9223372036854775807
  nb : -9223372036854775808 ≤ s.n ∧ s.n ≤ 9223372036854775807
/-- A slice that reads as these ops. -/
def RdOps (w : World) (A : Option Addr) (n : Nat) (l : List DOp) : Prop :=
  l.length = n ∧ (0 < n → ∃ b o, A = some ⟨b, o, none⟩ ∧ b < w.heap.size ∧ ∀ (i : Nat) (s : DOp), l[i]? = some s → OpAt w b (o + i * 8) s)
theorem OpAt.below {w w' : World} {b o : Nat} {s : DOp} (h : OpAt w b o s) (hb : Below w.heap.size w w') (hl : b < w.heap.size) : OpAt w' b o s :=
  ⟨(hb.cell (p := ⟨b, _, none⟩) hl).trans h.c0, (hb.cell (p := ⟨b, _, none⟩) hl).trans h.c1, (hb.cell (p := ⟨b, _, none⟩) hl).trans h.c2, (hb.cell (p := ⟨b, _, none⟩) hl).trans h.c3, (hb.cell (p := ⟨b, _, none⟩) hl).trans h.c4, (hb.cell (p := ⟨b, _, none⟩) hl).trans h.c5, (hb.cell (p := ⟨b, _, none⟩) hl).trans h.c6, (hb.cell (p := ⟨b, _, none⟩) hl).trans h.c7, h.rb.below hb, h.rf.below hb, h.mask, h.fl, h.mc, h.fmc, h.at_, h.nb⟩
theorem RdOps.below {w w' : World} {A : Option Addr} {n : Nat} {l : List DOp} (h : RdOps w A n l) (hb : Below w.heap.size w w') : RdOps w' A n l := by
  refine ⟨h.1, fun hn => ?_⟩
  obtain ⟨b, o, rfl, hl, hc⟩ := h.2 hn
  exact ⟨b, o, rfl, Nat.lt_of_lt_of_le hl hb.size, fun i s hs => (hc i s hs).below hb hl⟩
section
variable {H : Type} {enc : TypeId × Value → H} {W : World} {base : Nat} {v : Value} {d : DataW H} {p : List MemPlace}
set_option maxRecDepth 100000 in
theorem in_ops (hval : Value.okWide Try.prog W .any base 22 v) (h : Reads enc W 22 v d p) : ∃ (A : Option Addr) (n cap : Nat) (l : List DOp), v = .slice A n cap ∧ RdOps W A n l ∧ n ≤ cap ∧ n ≤ 9223372036854775807 := by
  obtain ⟨A, n, cap, rfl, hc, hn, hr⟩ := in_structs Try.underlying22 Try.underlying38 (by kernel_rfl) cells_op (by decide) hval h
  by_cases h0 : 0 < n
  · obtain ⟨b, o, rfl, hb, he⟩ := hr h0
    obtain ⟨l, hl, hp⟩ := exists_list (α := DOp) (P := fun i s => OpAt W b (o + i * 8) s) n (fun i hi => by
      obtain ⟨u0, c0, m0, y0, r0⟩ := he i hi 0 _ rfl
      obtain ⟨u1, c1, m1, y1, r1⟩ := he i hi 1 _ rfl
      obtain ⟨u2, c2, r2⟩ := he i hi 2 _ rfl
      obtain ⟨u3, c3, m3, y3, r3⟩ := he i hi 3 _ rfl
      obtain ⟨u4, c4, m4, y4, r4⟩ := he i hi 4 _ rfl
      obtain ⟨u5, c5, m5, y5, r5⟩ := he i hi 5 _ rfl
      obtain ⟨u6, c6, m6, y6, r6⟩ := he i hi 6 _ rfl
      obtain ⟨u7, c7, r7⟩ := he i hi 7 _ rfl
      obtain ⟨a0, rfl, w0⟩ := one_int Try.underlying3 r0
      obtain ⟨a1, rfl, w1⟩ := one_int Try.underlying3 r1
      obtain ⟨B, m, c, x, rfl, b1, b2, b3⟩ := field_bytes r2
      obtain ⟨a3, rfl⟩ := one_bool r3
      obtain ⟨a4, rfl, w4⟩ := one_int Try.underlying3 r4
      obtain ⟨a5, rfl, w5⟩ := one_int Try.underlying3 r5
      obtain ⟨a6, e6, _, wa⟩ := DataW.trod_int Try.underlying5 r6
      simp at e6
      subst e6
      obtain ⟨k6, rfl, hk6⟩ := u8_in wa
      obtain ⟨F, fm, fc, fs, rfl, g1, g2, g3, g4⟩ := field_fates r7
      have e : ∀ j : Nat, o + (i * 8 + j) = o + i * 8 + j := fun j => by omega
      exact ⟨⟨a0, a1, B, m, c, x, a3, a4, a5, k6, F, fm, fc, fs⟩, ⟨by rw [← e]; exact c0, by rw [← e]; exact c1, by rw [← e]; exact c2, by rw [← e]; exact c3, by rw [← e]; exact c4, by rw [← e]; exact c5, by rw [← e]; exact c6, by rw [← e]; exact c7, b1, g2, hk6, g1, ⟨b2, b3⟩, ⟨g3, g4⟩, w1, w4⟩⟩)
    exact ⟨some ⟨b, o, none⟩, n, cap, l, rfl, ⟨hl, fun _ => ⟨b, o, rfl, hb, hp⟩⟩, hc, hn⟩
  · have : n = 0 := by omega
    subst this
    exact ⟨A, 0, cap, [], rfl, ⟨rfl, fun h => absurd h (Nat.lt_irrefl 0)⟩, hc, hn⟩
end
end Go.Proofs.Ytamdihodconjiaa
