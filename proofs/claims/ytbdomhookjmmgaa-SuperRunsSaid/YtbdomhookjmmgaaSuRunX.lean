/- Ops of SuperRuns that came in. SuperRuns: what a step leaves of the pair of disks: plain. -/
import Derived.Test.YtbdomhookjmmgaaInS
import Derived.Test.YtbdomhookjmmgaaDkF
import Derived.Test.YtbdomhookjmmgaaSuRl
import Derived.Test.YtbdomhookjmmgaaSuSame
import Derived.Test.YtbdomhookjmmgaaSuW
import Derived.Test.YtbdomhookjmmgaaRkD
namespace Go.Proofs.Ytbdomhookjmmgaa
open Go.ChangeShapes Go.WideShapes Go.ChangeAt Go.RowKit Go.Deep Su
set_option linter.unusedVariables false
section
variable {H : Type} {enc : TypeId × Value → H} {W : World} {base : Nat} {v : Value} {d : DataW H} {p : List MemPlace}
theorem one_int {t : TypeId} (hu : Try.prog.underlying t = some (.int .i64)) {f : Nat} {c : Value} {y : DataW H × List MemPlace} {sp : Nat → Bool} {hd : Bool} (h : DataW.trod enc Try.prog W 0 sp hd f t [c] = some y) : ∃ n : Int, c = .int .i64 n ∧ -9223372036854775808 ≤ n ∧ n ≤ 9223372036854775807 := by
  obtain ⟨a, e0, _, wa⟩ := DataW.trod_int hu h
  simp at e0
  exact ⟨a, e0, i64_in wa⟩
theorem cells_fate : Try.prog.cellsOf 120 = 2 := by kernel_rfl
theorem flatFa_get {l : List Dk.Fa} : ∀ {j : Nat} {u : Value}, (flatFa l)[j]? = some u → ∃ q, l[j / 2]? = some q ∧ u = if j % 2 = 0 then .int .i64 q.k else .int .i64 q.c := by
  induction l with
  | nil => intro j u h; simp [flatFa] at h
  | cons x xs ih =>
    intro j u h
    match j, h with
    | 0, h => injection h with h; subst h; exact ⟨x, rfl, rfl⟩
    | 1, h => injection h with h; subst h; exact ⟨x, rfl, rfl⟩
    | j + 2, h =>
      have h : (flatFa xs)[j]? = some u := h
      obtain ⟨q, hq, hv⟩ := ih h
      refine ⟨q, ?_, ?_⟩
      · rw [show (j + 2) / 2 = j / 2 + 1 by omega, List.getElem?_cons_succ]; exact hq
      · rw [show (j + 2) % 2 = j % 2 by omega]; exact hv
set_option maxRecDepth 100000 in
theorem field_bytes (h : Field1 enc W 28 v) : ∃ (A : Option Addr) (n cap : Nat) (l : List Nat), v = .slice A n cap ∧ Rd W A n l ∧ n ≤ cap ∧ n ≤ 9223372036854775807 := by
  obtain ⟨fuel, y, hf⟩ := h
  rcases open_ints Try.underlying28 Try.underlying5 (by kernel_rfl) hf with ⟨hcs, _⟩ | ⟨x, l, c, zs, hcs, _, hl, hm, hz, _, hcell, hwz⟩
  · injection hcs with hcs _
    exact ⟨none, 0, 0, [], hcs, Rd.nil _ _, Nat.le_refl _, by omega⟩
  · injection hcs with hcs _
    obtain ⟨r, hr, hc, hn⟩ := row_rd (w := W) (a := some x) (len := l) (cap := c) (zs := zs) (.inr ⟨_, rfl, hl, hm, by simpa using hz, hcell, hwz⟩)
    exact ⟨some x, l, c, r, hcs, hr, hc, hn⟩
set_option maxRecDepth 100000 in
theorem field_fates (h : Field1 enc W 51 v) : ∃ (A : Option Addr) (n cap : Nat) (l : List Dk.Fa), v = .slice A n cap ∧ l.length = n ∧ RdC 2 W A n (flatFa l) ∧ n ≤ cap ∧ n ≤ 9223372036854775807 := by
  obtain ⟨A, n, cap, rfl, hc, hn, hr⟩ := field_structs Try.underlying51 Try.underlying120 (by kernel_rfl) cells_fate (by decide) h
  by_cases h0 : 0 < n
  · obtain ⟨b, o, rfl, hb, he⟩ := hr h0
    obtain ⟨l, hl, hp⟩ := exists_list (α := Dk.Fa) (P := fun i s => W.cell? ⟨b, o + (i * 2 + 0), none⟩ = some (.int .i64 s.k) ∧ W.cell? ⟨b, o + (i * 2 + 1), none⟩ = some (.int .i64 s.c)) n (fun i hi => by
      obtain ⟨u0, c0, m0, y0, r0⟩ := he i hi 0 _ rfl
      obtain ⟨u1, c1, m1, y1, r1⟩ := he i hi 1 _ rfl
      obtain ⟨a0, rfl, w0⟩ := one_int Try.underlying3 r0
      obtain ⟨a1, rfl, w1⟩ := one_int Try.underlying3 r1
      exact ⟨⟨a0, a1⟩, c0, c1⟩)
    refine ⟨some ⟨b, o, none⟩, n, cap, l, rfl, hl, ⟨by rw [flatFa_length, hl], fun _ => ⟨b, o, rfl, hb, fun j u hu => ?_⟩⟩, hc, hn⟩
    obtain ⟨q, hq, hx⟩ := flatFa_get hu
    obtain ⟨c0, c1⟩ := hp _ _ hq
    by_cases hm : j % 2 = 0
    · rw [if_pos hm] at hx
      rw [hx, show o + j = o + (j / 2 * 2 + 0) by omega]
      exact c0
    · rw [if_neg hm] at hx
      rw [hx, show o + j = o + (j / 2 * 2 + 1) by omega]
      exact c1
  · have : n = 0 := by omega
    subst this
    exact ⟨A, 0, cap, [], rfl, rfl, RdC.nil 2 W A, hc, hn⟩
set_option maxRecDepth 100000 in
/-- A slice in a field of what came in: each element's cells, and that they read. -/
theorem field_elems {t e : TypeId} {C : Nat} {fuel : Nat} {x : DataW H × List MemPlace} (ht : Try.prog.underlying t = some (.slice e)) (hC : Try.prog.cellsOf e = C) (hpos : 0 < C)
    (hf : DataW.trod enc Try.prog W 0 (fun _ => true) true fuel t [v] = some x) :
    ∃ (A : Option Addr) (n cap : Nat), v = .slice A n cap ∧ n ≤ cap ∧ n ≤ 9223372036854775807 ∧ (0 < n → ∃ b o, A = some ⟨b, o, none⟩ ∧ b < W.heap.size ∧ ∀ i, i < n → ∃ (cs : List Value) (q : Nat) (y : DataW H × List MemPlace), cs.length = C ∧ (∀ (j : Nat) (u : Value), cs[j]? = some u → W.cell? ⟨b, o + (i * C + j), none⟩ = some u) ∧ DataW.trod enc Try.prog W 0 (fun _ => true) true q e cs = some y) := by
  rcases open_slice ht hf with ⟨hcs, _⟩ | ⟨a, len0, cap0, m, k, D, Pl, hcs, hb, hl, hm, hmm, hx, hi⟩
  · injection hcs with hcs _
    exact ⟨none, 0, 0, hcs, Nat.le_refl _, by omega, fun h => absurd h (Nat.lt_irrefl 0)⟩
  · injection hcs with hcs _
    subst hcs
    have hm' : m = cap0 := by simpa using hmm
    simp only [maxLen] at hm
    have each : ∀ i, i < len0 → ∃ (cs : List Value) (q : Nat) (y : DataW H × List MemPlace), cs.length = C ∧ (∀ (j : Nat) (u : Value), cs[j]? = some u → W.cell? (a.add (i * C + j)) = some u) ∧ DataW.trod enc Try.prog W 0 (fun _ => true) true q e cs = some y := by
      intro i hin
      obtain ⟨cs, hc, htr⟩ := hi i (by omega)
      rw [hC] at hc
      obtain ⟨_, hcl, hat⟩ := World.cells?_some hc
      refine ⟨cs, _, _, hcl, fun j u hj => ?_, htr⟩
      have hj2 : j < C := by have := (List.getElem?_eq_some_iff.1 hj).1; omega
      have hcell := hat j hj2
      rw [Go.Deep.add_add, hj] at hcell
      exact hcell
    refine ⟨some a, len0, cap0, rfl, hl, by omega, fun hn => ?_⟩
    obtain ⟨cs0, q0, y0, hl0, hc0, _⟩ := each 0 hn
    obtain ⟨u0, hu0⟩ : ∃ u, cs0[0]? = some u := ⟨_, List.getElem?_eq_getElem (by omega)⟩
    have h00 := hc0 0 u0 hu0
    rw [Nat.zero_mul, Nat.zero_add] at h00
    obtain ⟨b, o, rfl⟩ := plain_addr h00
    refine ⟨b, o, rfl, ?_, fun i hin => ?_⟩
    · rw [plain_add] at h00
      exact block_lt_of_cell h00
    · obtain ⟨cs, q, y, h1, h2, h3⟩ := each i hin
      refine ⟨cs, q, y, h1, fun j u hj => ?_, h3⟩
      have := h2 j u hj
      rwa [plain_add] at this
end
/-- An op, with the slices that it holds. -/
structure SOp where
  kind : Int
  s : S
  sA : Option Addr
  sc : Nat
  at_ : Int
  B : Option Addr
  m : Nat
  c : Nat
  b : List Nat
  place : Int
  mask : Nat
  n : Int
  F : Option Addr
  fm : Nat
  fc : Nat
  fs : List Dk.Fa
def SOp.cells (s : SOp) : List Value := [.int .i64 s.kind, .int .i64 s.s.g, .int .i64 s.s.e, .int .i64 s.s.i, .int .i64 s.s.m, .slice s.sA s.s.ps.length s.sc, .int .i64 s.at_, .slice s.B s.m s.c, .int .i64 s.place, .int .u8 (s.mask : Int), .int .i64 s.n, .slice s.F s.fm s.fc]
/-- An op's cells at an address. -/
structure SOpAt (w : World) (b o : Nat) (s : SOp) : Prop where
  c0 : w.cell? ⟨b, o + 0, none⟩ = some (.int .i64 s.kind)
  c1 : w.cell? ⟨b, o + 1, none⟩ = some (.int .i64 s.s.g)
  c2 : w.cell? ⟨b, o + 2, none⟩ = some (.int .i64 s.s.e)
  c3 : w.cell? ⟨b, o + 3, none⟩ = some (.int .i64 s.s.i)
  c4 : w.cell? ⟨b, o + 4, none⟩ = some (.int .i64 s.s.m)
  c5 : w.cell? ⟨b, o + 5, none⟩ = some (.slice s.sA s.s.ps.length s.sc)
  c6 : w.cell? ⟨b, o + 6, none⟩ = some (.int .i64 s.at_)
  c7 : w.cell? ⟨b, o + 7, none⟩ = some (.slice s.B s.m s.c)
  c8 : w.cell? ⟨b, o + 8, none⟩ = some (.int .i64 s.place)
  c9 : w.cell? ⟨b, o + 9, none⟩ = some (.int .u8 (s.mask : Int))
  c10 : w.cell? ⟨b, o + 10, none⟩ = some (.int .i64 s.n)
  c11 : w.cell? ⟨b, o + 11, none⟩ = some (.slice s.F s.fm s.fc)
  rs : RdC 2 w s.sA s.s.ps.length (pv s.s.ps)
  sl : s.s.ps.length ≤ s.sc ∧ s.s.ps.length ≤ 9223372036854775807
  rb : Rd w s.B s.m s.b
  mc : s.m ≤ s.c ∧ s.m ≤ 9223372036854775807
  rf : RdC 2 w s.F s.fm (flatFa s.fs)
  fl : s.fs.length = s.fm
  fmc : s.fm ≤ s.fc ∧ s.fm ≤ 9223372036854775807
  mask : s.mask < 256
/-- A slice that reads as these ops. -/
def RdSO (w : World) (A : Option Addr) (n : Nat) (l : List SOp) : Prop :=
  l.length = n ∧ (0 < n → ∃ b o, A = some ⟨b, o, none⟩ ∧ b < w.heap.size ∧ ∀ (i : Nat) (s : SOp), l[i]? = some s → SOpAt w b (o + i * 12) s)
theorem SOpAt.below {w w' : World} {b o : Nat} {s : SOp} (h : SOpAt w b o s) (hb : Below w.heap.size w w') (hl : b < w.heap.size) : SOpAt w' b o s :=
  ⟨(hb.cell (p := ⟨b, _, none⟩) hl).trans h.c0, (hb.cell (p := ⟨b, _, none⟩) hl).trans h.c1, (hb.cell (p := ⟨b, _, none⟩) hl).trans h.c2, (hb.cell (p := ⟨b, _, none⟩) hl).trans h.c3, (hb.cell (p := ⟨b, _, none⟩) hl).trans h.c4, (hb.cell (p := ⟨b, _, none⟩) hl).trans h.c5, (hb.cell (p := ⟨b, _, none⟩) hl).trans h.c6, (hb.cell (p := ⟨b, _, none⟩) hl).trans h.c7, (hb.cell (p := ⟨b, _, none⟩) hl).trans h.c8, (hb.cell (p := ⟨b, _, none⟩) hl).trans h.c9, (hb.cell (p := ⟨b, _, none⟩) hl).trans h.c10, (hb.cell (p := ⟨b, _, none⟩) hl).trans h.c11, h.rs.below hb, h.sl, h.rb.below hb, h.mc, h.rf.below hb, h.fl, h.fmc, h.mask⟩
section
variable {H : Type} {enc : TypeId × Value → H} {W : World} {base : Nat} {v : Value} {d : DataW H} {p : List MemPlace}
theorem cells_sop : Try.prog.cellsOf 53 = 12 := by kernel_rfl
theorem cells_u8 : Try.prog.cellsOf 5 = 1 := by kernel_rfl
theorem cells_brow : Try.prog.cellsOf 28 = 1 := by kernel_rfl
theorem cells_frow : Try.prog.cellsOf 51 = 1 := by kernel_rfl
theorem list12 {α : Type} {cs : List α} (h : cs.length = 12) : ∃ c0 c1 c2 c3 c4 c5 c6 c7 c8 c9 ca cb, cs = [c0, c1, c2, c3, c4, c5, c6, c7, c8, c9, ca, cb] := by
  match cs, h with
  | [c0, c1, c2, c3, c4, c5, c6, c7, c8, c9, ca, cb], _ => exact ⟨c0, c1, c2, c3, c4, c5, c6, c7, c8, c9, ca, cb, rfl⟩
set_option maxRecDepth 100000 in
set_option maxHeartbeats 2000000 in
theorem in_sops (hval : Value.okWide Try.prog W .any base 43 v) (h : Reads enc W 43 v d p) : ∃ (A : Option Addr) (n cap : Nat) (l : List SOp), v = .slice A n cap ∧ RdSO W A n l ∧ n ≤ cap ∧ n ≤ 9223372036854775807 := by
  obtain ⟨a0, len0, cap0, rfl⟩ := okWide_slice Try.underlying43 hval
  obtain ⟨fuel, hf⟩ := h
  have hf : DataW.trod enc Try.prog W 0 (fun _ => true) true fuel 43 [.slice a0 len0 cap0] = some (d, p) := by simpa [Value.cells] using hf
  obtain ⟨A, n, cap, e0, hc, hn, hr⟩ := field_elems Try.underlying43 cells_sop (by decide) hf
  injection e0 with e1 e2 e3
  subst e1 e2 e3
  by_cases h0 : 0 < len0
  · obtain ⟨b, o, rfl, hb, he⟩ := hr h0
    obtain ⟨l, hl, hp⟩ := exists_list (α := SOp) (P := fun i s => SOpAt W b (o + i * 12) s) len0 (fun i hi => by
      obtain ⟨cs, q, y, h1, h2, h3⟩ := he i hi
      obtain ⟨v0, v1, v2, v3, v4, v5, v6, v7, v8, v9, va, vb, rfl⟩ := list12 h1
      obtain ⟨xs, n, _, _, _, hlen, hf⟩ := DataW.trod_struct Try.underlying53 h3
      match xs, hlen with
      | [y0, y1, y2, y3, y4, y5, y6, y7], _ =>
        have t0 : DataW.trod enc Try.prog W 0 (fun _ => true) true n 3 [v0] = some y0 := by simpa [cells_int, cells_super, cells_brow, cells_frow, cells_u8] using hf 0 _ rfl
        have t1 : DataW.trod enc Try.prog W 0 (fun _ => true) true n 26 [v1, v2, v3, v4, v5] = some y1 := by simpa [cells_int, cells_super, cells_brow, cells_frow, cells_u8] using hf 1 _ rfl
        have t2 : DataW.trod enc Try.prog W 0 (fun _ => true) true n 3 [v6] = some y2 := by simpa [cells_int, cells_super, cells_brow, cells_frow, cells_u8] using hf 2 _ rfl
        have t3 : DataW.trod enc Try.prog W 0 (fun _ => true) true n 28 [v7] = some y3 := by simpa [cells_int, cells_super, cells_brow, cells_frow, cells_u8] using hf 3 _ rfl
        have t4 : DataW.trod enc Try.prog W 0 (fun _ => true) true n 3 [v8] = some y4 := by simpa [cells_int, cells_super, cells_brow, cells_frow, cells_u8] using hf 4 _ rfl
        have t5 : DataW.trod enc Try.prog W 0 (fun _ => true) true n 5 [v9] = some y5 := by simpa [cells_int, cells_super, cells_brow, cells_frow, cells_u8] using hf 5 _ rfl
        have t6 : DataW.trod enc Try.prog W 0 (fun _ => true) true n 3 [va] = some y6 := by simpa [cells_int, cells_super, cells_brow, cells_frow, cells_u8] using hf 6 _ rfl
        have t7 : DataW.trod enc Try.prog W 0 (fun _ => true) true n 51 [vb] = some y7 := by simpa [cells_int, cells_super, cells_brow, cells_frow, cells_u8] using hf 7 _ rfl
        obtain ⟨k0, rfl⟩ := one_intF t0
        obtain ⟨us, n1, _, _, _, hlen1, hf1⟩ := DataW.trod_struct Try.underlying26 t1
        match us, hlen1 with
        | [u0, u1, u2], _ =>
          have s0 : DataW.trod enc Try.prog W 0 (fun _ => true) true n1 3 [v1] = some u0 := by simpa [cells_int] using hf1 0 _ rfl
          have s1 : DataW.trod enc Try.prog W 0 (fun _ => true) true n1 3 [v2] = some u1 := by simpa [cells_int] using hf1 1 _ rfl
          have s2 : DataW.trod enc Try.prog W 0 (fun _ => true) true n1 24 [v3, v4, v5] = some u2 := by simpa [cells_place] using hf1 2 _ rfl
          obtain ⟨a0, rfl⟩ := one_intF s0
          obtain ⟨a1, rfl⟩ := one_intF s1
          obtain ⟨zs, n2, _, _, _, hlen2, hf2⟩ := DataW.trod_struct Try.underlying24 s2
          match zs, hlen2 with
          | [z0, z1, z2], _ =>
            have r0 : DataW.trod enc Try.prog W 0 (fun _ => true) true n2 3 [v3] = some z0 := by simpa [cells_int] using hf2 0 _ rfl
            have r1 : DataW.trod enc Try.prog W 0 (fun _ => true) true n2 3 [v4] = some z1 := by simpa [cells_int] using hf2 1 _ rfl
            have r2 : DataW.trod enc Try.prog W 0 (fun _ => true) true n2 22 [v5] = some z2 := by simpa [cells_prow] using hf2 2 _ rfl
            obtain ⟨b0, rfl⟩ := one_intF r0
            obtain ⟨b1, rfl⟩ := one_intF r1
            obtain ⟨PA, pm, pc, ps, rfl, plm, pr, phc, phn⟩ := field_pairs ⟨n2, z2, r2⟩
            obtain ⟨k2, rfl⟩ := one_intF t2
            obtain ⟨BB, bm, bc, bl, rfl, g1, g2, g3⟩ := field_bytes ⟨n, y3, t3⟩
            obtain ⟨k4, rfl⟩ := one_intF t4
            obtain ⟨a6, e6, _, wa⟩ := DataW.trod_int Try.underlying5 t5
            simp at e6
            subst e6
            obtain ⟨k6, rfl, hk6⟩ := u8_in wa
            obtain ⟨ka, rfl⟩ := one_intF t6
            obtain ⟨FF, fm, fc, fs, rfl, f1, f2, f3, f4⟩ := field_fates ⟨n, y7, t7⟩
            have e : ∀ j : Nat, o + (i * 12 + j) = o + i * 12 + j := fun j => by omega
            subst plm
            refine ⟨⟨k0, ⟨a0, a1, b0, b1, ps⟩, PA, pc, k2, BB, bm, bc, bl, k4, k6, ka, FF, fm, fc, fs⟩, ⟨?_, ?_, ?_, ?_, ?_, ?_, ?_, ?_, ?_, ?_, ?_, ?_, pr, ⟨phc, phn⟩, g1, ⟨g2, g3⟩, f2, f1, ⟨f3, f4⟩, hk6⟩⟩
            · rw [← e]; exact h2 0 _ rfl
            · rw [← e]; exact h2 1 _ rfl
            · rw [← e]; exact h2 2 _ rfl
            · rw [← e]; exact h2 3 _ rfl
            · rw [← e]; exact h2 4 _ rfl
            · rw [← e]; exact h2 5 _ rfl
            · rw [← e]; exact h2 6 _ rfl
            · rw [← e]; exact h2 7 _ rfl
            · rw [← e]; exact h2 8 _ rfl
            · rw [← e]; exact h2 9 _ rfl
            · rw [← e]; exact h2 10 _ rfl
            · rw [← e]; exact h2 11 _ rfl
)
    exact ⟨some ⟨b, o, none⟩, len0, cap0, l, rfl, ⟨hl, fun _ => ⟨b, o, rfl, hb, hp⟩⟩, hc, hn⟩
  · have : len0 = 0 := by omega
    subst this
    exact ⟨a0, 0, cap0, [], rfl, ⟨rfl, fun h => absurd h (Nat.lt_irrefl 0)⟩, hc, hn⟩
end
end Go.Proofs.Ytbdomhookjmmgaa
namespace Go.Proofs.Ytbdomhookjmmgaa
open Go.RowKit Fr Su
set_option linter.unusedVariables false
theorem low_up {st : Dk.St} {c c' : Nat} (h : st.low c) (hc : c ≤ c') : st.low c' := ⟨h.1, by have := h.2.1; omega, h.2.2.1, h.2.2.2.1, fun s hs => Nat.le_trans (h.2.2.2.2 s hs) hc⟩
theorem Duo.up {a w : World} {d g cnt cnt' : Nat} {st : Dk.St} {lab labR : Nat → Tag} (h : Duo a w d g st cnt lab labR) (hc : cnt ≤ cnt') : Duo a w d g st cnt' lab labR := ⟨h.base, h.disk, h.ref, h.la, h.lr, h.apart, low_up h.low hc⟩
theorem low_saveS {st : Dk.St} {c : Nat} (h : st.low c) (s : S) : (saveS st s).1.low (c + 4) := by
  unfold saveS
  split
  · exact low_up h (by omega)
  · split
    · exact low_up h (by omega)
    · split
      · exact low_up (low_write h _ _) (by omega)
      · exact low_up (low_flush (low_write (low_write h _ _) _ _)) (by omega)
theorem low_mendL (want : List Nat) : ∀ (l : List Int) (st : Dk.St) (c : Nat), st.low c → (mendL want st l).1.low (c + l.length) := by
  intro l
  induction l with
  | nil => intro st c h; exact h
  | cons x t ih =>
    intro st c h
    unfold mendL
    split
    · have := ih _ _ (low_write h x want)
      rw [show c + (x :: t).length = c + 1 + t.length by simp; omega]
      exact this
    · exact low_up h (by omega)
theorem low_mendS {st : Dk.St} {c : Nat} (h : st.low c) : (mendS st).1.low (c + 4) := by
  unfold mendS
  split
  · exact low_up h (by omega)
  · split
    · exact low_up h (by omega)
    · have h2 := unlike_short st (slotA (loadS st).1) (sec (loadS st).1)
      have h3 := low_mendL (sec (loadS st).1) (unlikeS st (slotA (loadS st).1) (sec (loadS st).1)).1 st c h
      unfold mendT
      split
      · exact low_up h3 (by omega)
      · exact low_up h3 (by omega)
theorem loadF_few (st : Dk.St) : ∀ (f : Nat) (nw : S), nw.ps.length ≤ 1000 → (loadF st f nw).1.ps.length ≤ 1000 := by
  intro f
  induction f with
  | zero =>
    intro nw hn
    unfold loadF
    split
    · simp [none_]
    · exact hn
  | succ f ih =>
    intro nw hn
    unfold loadF
    split
    · refine ih _ ?_
      unfold pick
      split
      · rename_i hh
        have h1 := hh.1
        unfold isSu at h1
        simp only [Bool.and_eq_true] at h1
        obtain ⟨_, _, _, _, _, _, _, _, _, _, _, _, _, _, _, _, _, n2⟩ := ok_nat h1.2
        omega
      · exact hn
    · simp [none_]
theorem load_few (st : Dk.St) : (loadS st).1.ps.length ≤ 1000 := loadF_few st 4 none_ (by simp [none_])
theorem fit_of {l : List (Nat × Nat)} : ∀ {fs : List Dk.Fa}, fs.length ≤ l.length → (∀ (i : Nat) (f : Dk.Fa) (x : Nat × Nat), fs[i]? = some f → l[i]? = some x → f.ok x.2) → Dk.fit fs l = true := by
  induction l with
  | nil => intro fs h _; cases fs with
    | nil => rfl
    | cons => simp at h
  | cons y r ih =>
    intro fs h hok
    cases fs with
    | nil => rfl
    | cons f fs =>
      unfold Dk.fit
      rw [decide_eq_true (hok 0 f y rfl rfl), ih (by simpa using h) fun i g x h1 h2 => hok (i + 1) g x (by simpa using h1) (by simpa using h2)]
      rfl
theorem Fits.fit {l : List (Nat × Nat)} {k : Nat} {fs : List Dk.Fa} (h : Fits l k fs) (hk : k ≤ l.length) : Dk.fit fs l = true := fit_of (by rw [h.1]; exact hk) h.2
theorem Fits.crash_le {st : Dk.St} {k : Nat} {fs : List Dk.Fa} (h : Fits st.loose k fs) (hk : k ≤ st.loose.length) : st.crashE fs = 0 := by
  unfold Dk.St.crashE
  rw [if_neg (by rw [h.1]; omega), if_pos (h.fit hk)]
theorem ref_few {w : World} {g : Nat} {labR : Nat → Tag} {st : Dk.St} (h : IsRef w g labR st) : st.loose.length ≤ 4096 ∧ ∀ x ∈ st.loose, x.2 ≤ 2000 := by
  obtain ⟨sb, C, h⟩ := h
  refine ⟨Nat.le_trans (looseF_len _ _) h.fine.2.2, fun x hx => ?_⟩
  obtain ⟨i, hi⟩ := List.getElem?_of_mem hx
  obtain ⟨a, s, h1, h2, h3, h4⟩ := loose_sec (L := st.s) (k := 0) hi
  obtain ⟨c, hc, _, _, hsec⟩ := h.at_ h3
  rw [h2]
  exact hsec.l.1
/-- Both disks behind a loss of power. -/
theorem Duo.crash {a W v1 v2 : World} {d g g1 g2 cnt cnt' : Nat} {st : Dk.St} {fs : List Dk.Fa} {lab labR lab3 lab4 : Nat → Tag} (h : Duo a W d g st cnt lab labR) (hG : IsDisk v1 g1 lab3 (st.crash fs)) (hb1 : Below W.heap.size W v1) (hl3 : ∀ k, lab3 k ≠ .no → W.heap.size ≤ k) (hR : IsRef v2 g2 lab4 (st.crash fs)) (hb2 : Below v1.heap.size v1 v2) (hl4 : ∀ k, lab4 k ≠ .no → v1.heap.size ≤ k) : Duo a v2 g1 g2 (st.crash fs) cnt' lab3 lab4 := by
  refine ⟨h.base.trans ((hb1.trans (hb2.mono hb1.size)).mono h.base.size), hG.below hb2, hR, fun k e => Nat.le_trans h.base.size (hl3 k e), fun k e => Nat.le_trans h.base.size (Nat.le_trans hb1.size (hl4 k e)), fun k => ?_, low_crash _ _ _⟩
  by_cases e : k < v1.heap.size
  · right
    cases e4 : lab4 k with
    | no => rfl
    | _ => exact absurd (hl4 k (by rw [e4]; simp)) (by omega)
  · left
    exact hG.new_ (by omega)
theorem Fr.of_below {lab labR : Nat → Tag} {w w' : World} (h : Below w.heap.size w w') : Fr lab labR w w' := ⟨h.size, fun k hk _ _ => h.block k hk⟩
theorem Fr.trans_below {lab labR : Nat → Tag} {w v v' : World} (h : Fr lab labR w v) (hb : Below v.heap.size v v') : Fr lab labR w v' := ⟨Nat.le_trans h.size hb.size, fun k hk h1 h2 => (hb.block k (Nat.lt_of_lt_of_le hk h.size)).trans (h.block k hk h1 h2)⟩
theorem Fr.drew {lab labR : Nat → Tag} {w v : World} (h : Fr lab labR w.drew v) : Fr lab labR w v := ⟨h.size, h.block⟩
theorem Half.below {a w w1 w2 : World} {d g : Nat} {st st1 : Dk.St} {lab labR lab1 : Nat → Tag} (h : Half a w w1 d g st st1 lab labR lab1) (hb : Below w1.heap.size w1 w2) : Half a w w2 d g st st1 lab labR lab1 :=
  ⟨h.base.trans (hb.mono h.base.size), h.disk.below hb, h.ref.below hb, h.la, h.apart, h.stay, h.fr.trans_below hb⟩
theorem eqS_refl (a : S) : Su.eqS a a = true := by
  unfold Su.eqS
  simp
end Go.Proofs.Ytbdomhookjmmgaa
