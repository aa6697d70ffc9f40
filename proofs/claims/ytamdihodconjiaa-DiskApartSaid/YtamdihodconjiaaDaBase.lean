/- append of a made slice, append(s, make([]T, m)...), onto a slice of the call's own: the builtin gets the number m; and append of a slice without the bound of a million. append(append([]api.Fate{}, a...), make([]api.Fate, n)...). A fate stored into a row of fates. A slice of fates that came in: its cells, and how many there may be. A sector behind a crash hangs on its own fate alone. -/
import Derived.Test.YtamdihodconjiaaRowC
import Derived.Lib.AppendZeros
import Derived.Test.YtamdihodconjiaaRkFit
import Derived.Test.YtamdihodconjiaaDkOps
import Derived.SizedLaws
import Derived.Test.YtamdihodconjiaaRkDuo
namespace Go.Proofs.Ytamdihodconjiaa
open Go.RowKit
/-- m elements of zeros, as cells. -/
def zs (z : Value) (m : Nat) : List Value := (Builtin.zeroCells z.cells m).toList
theorem zs_length (z : Value) (m : Nat) : (zs z m).length = m * z.cells.size := by unfold zs; rw [Array.length_toList, size_zeroCells]
section
variable {P : Program} (w : World)
theorem run_app_zeros_own (base : Nat) (t tn ty e : TypeId) (i : TypeInfo) (z : Value) (size bytes : Nat) (k kn : IntKind) (ht : P.underlying t = some (.slice e)) (htn : P.underlying tn = some (.int kn)) (hi : P.info? e = some i) (hz : i.zero = some z)
    (hsize : i.size = size) (hby : i.bytes = bytes) (hzs : z.cells.size = size) (hsz : 0 < size)
    (v : Value) (n : Nat) (xs : List Value) (hown : w.ownsRow base e size v n xs)
    (m : Nat) (h1 : ∀ u ∈ zs z m, u.oneCell' = true)
    (h63 : n + m ≤ maxLen) (hbytes : (n + m) * bytes ≤ 140737488355328) (hbase : base ≤ w.heap.size) :
    ∃ v' w', (Builtin.append_ #[t, tn] ty #[v, .int k m]).run P w = .ok v' w' ∧ w'.ownsRow base e size v' (n + m) (xs ++ zs z m) ∧ w.grownBy w' v.ownBlock ∧
      (v' = .slice none 0 0 ↔ v = .slice none 0 0 ∧ m = 0) ∧ (v'.ownBlock = v.ownBlock ∨ v'.ownBlock = some w.heap.size) := by
  subst hsize
  subst hby
  have hsmall : n + m ≤ 9223372036854775807 := by simp only [maxLen] at h63; omega
  have hl : (zs z m).length = m * i.size := by rw [zs_length, hzs]
  have hlen : (xs ++ zs z m).length = (n + m) * i.size := by rw [List.length_append, hown.1, hl, Nat.add_mul]
  have hw : IntKind.i64.wrap (m : Int) = m := by rw [IntKind.wrap_i64]; omega
  have hneg : ¬ ((m : Int) < 0) := by omega
  have hmb : m * i.bytes ≤ 140737488355328 := Nat.le_trans (Nat.mul_le_mul_right _ (Nat.le_add_left m n)) hbytes
  have h48i : ¬ (281474976710656 < (m : Int) * (i.bytes : Int)) := by
    rw [← Int.natCast_mul]
    omega
  have grown : ∀ (old : Nat), old < n + m → ∀ (row : Option Nat),
      (w.drew.alloc (.cells (xs.toArray ++ Builtin.zeroCells z.cells m ++ Builtin.zeroCells z.cells (grownCap w (n + m) old e - (n + m))) e)).ownsRow base e i.size
        (.slice (some ⟨w.heap.size, 0, none⟩) (n + m) (grownCap w (n + m) old e)) (n + m) (xs ++ zs z m) ∧
      w.grownBy (w.drew.alloc (.cells (xs.toArray ++ Builtin.zeroCells z.cells m ++ Builtin.zeroCells z.cells (grownCap w (n + m) old e - (n + m))) e)) row := by
    intro old ho row
    have hge := grownCap_ge w (n + m) old e
    have hcm : grownCap w (n + m) old e ≤ maxLen := grownCap_le_maxLen w (n + m) old e h63
    refine ⟨⟨hlen, .inr ⟨w.heap.size, _, _, rfl, hbase, heap_alloc_new w.drew _, hge, hcm, ?_, ?_⟩⟩, ⟨rfl, rfl, rfl, by simp, fun k hk _ => heap_alloc_old w.drew _ hk⟩⟩
    · simp only [Array.size_append, List.size_toArray, size_zeroCells, hzs, hown.1, ← Nat.add_mul]
      congr 1
      omega
    · simp only [Array.toList_append, List.append_assoc]
      rw [← List.append_assoc, ← hlen]
      exact List.take_left
  rcases hown.2 with ⟨rfl, rfl⟩ | ⟨g, cap, cur, rfl, hbg, hg, hnc, hcm, hcs, htake⟩
  · have hx : xs = [] := List.eq_nil_of_length_eq_zero (by simpa using hown.1)
    subst hx
    by_cases hm : m = 0
    · subst hm
      have hn : zs z 0 = [] := List.eq_nil_of_length_eq_zero (by simpa using hl)
      rw [hn]
      refine ⟨.slice none 0 0, w, ?_, World.ownsRow_nil w base e i.size, ⟨rfl, rfl, rfl, Nat.le_refl _, fun _ _ _ => rfl⟩, by simp, Or.inl rfl⟩
      have hw0 : IntKind.i64.wrap 0 = 0 := by rw [IntKind.wrap_i64]; omega
      simp [Builtin.append_, run_underlying ht, run_underlying htn, sizeOf, typeInfo, hi, asInt, asIntOf, hw0]
    · have hr := Lib.run_append_nil_zeros (P := P) w t tn ty e i z k kn ht htn hi hz m (by omega) hsz (by omega) (by omega)
      have hgr := grown 0 (by omega) (Value.ownBlock (.slice none 0 0))
      simp only [Nat.zero_add, List.nil_append, Array.empty_append] at hgr ⊢
      exact ⟨_, _, hr, hgr.1, hgr.2, by simp [hm], Or.inr rfl⟩
  · by_cases hroom : n + m ≤ cap
    · have hfit : n * i.size + (zs z m).length ≤ cur.size := by rw [hl, hcs, ← Nat.add_mul]; exact Nat.mul_le_mul_right _ hroom
      have hst := run_storeCells_at P g (n * i.size) e (zs z m) 0 cur w hg (by simpa using hfit) h1
      simp only [Nat.add_zero] at hst
      have hr : (Builtin.append_ #[t, tn] ty #[.slice (some ⟨g, 0, none⟩) n cap, .int k m]).run P w =
          .ok (.slice (some ⟨g, 0, none⟩) (n + m) cap) (w.setRow g (cur.toList.take (n * i.size) ++ zs z m ++ cur.toList.drop (n * i.size + (zs z m).length)).toArray) := by
        by_cases hm : m = 0
        · subst hm
          have hn : zs z 0 = [] := List.eq_nil_of_length_eq_zero (by simpa using hl)
          rw [hn] at hst ⊢
          have hw0 : IntKind.i64.wrap 0 = 0 := by rw [IntKind.wrap_i64]; omega
          simp only [Nat.add_zero] at hroom
          simp [Builtin.append_, run_underlying ht, run_underlying htn, sizeOf, typeInfo, hi, asInt, asIntOf, hw0, hroom, Addr.add_lit] at hst ⊢
          rw [hst]
          rfl
        · have hns : ¬ (m * i.size = 0) := Nat.mul_ne_zero hm (by omega)
          unfold zs at hst
          simp [Builtin.append_, run_underlying ht, run_underlying htn, sizeOf, typeInfo, zeroValue, hi, hz, asInt, asIntOf, hw, hneg, hns, h48i, hroom, Addr.add_lit, hst]
          rfl
      refine ⟨_, _, hr, ⟨hlen, .inr ⟨g, cap, _, rfl, hbg, setRow_heap w g cur _ e _ hg, hroom, hcm, ?_, ?_⟩⟩, ⟨rfl, rfl, rfl, by simp, fun k _ hk => setRow_other w g k _ (fun e => hk (by simp [Value.ownBlock, e]))⟩, by simp, Or.inl rfl⟩
      · simp only [List.size_toArray, List.length_append, List.length_take, List.length_drop, Array.length_toList]
        omega
      · rw [htake, ← hlen]
        exact List.take_left
    · have holds : ∀ j u, xs[j]? = some u → w.cell? ((⟨g, 0, none⟩ : Addr).add j) = some u := hown.cells (g := g) rfl
      have hm : m ≠ 0 := by omega
      have hns : ¬ (m * i.size = 0) := Nat.mul_ne_zero hm (by omega)
      have hn : ¬ (n + m ≤ cap) := hroom
      have h63' : ¬ (9223372036854775807 < ((n : Int) + (m : Int))) := by omega
      have h48' : ¬ (281474976710656 < Builtin.nextslicecap (n + m) cap * i.bytes) := by
        have := growslice_fits (need := n + m) (old := cap) (bytes := i.bytes) (by omega) hbytes
        omega
      have hfo := run_firstCells_some (P := P) w.drew i.size n ⟨g, 0, none⟩ n cap xs hown.1 (by simpa using holds)
      have hr : (Builtin.append_ #[t, tn] ty #[.slice (some ⟨g, 0, none⟩) n cap, .int k m]).run P w =
          .ok (.slice (some ⟨w.heap.size, 0, none⟩) (n + m) (grownCap w (n + m) cap e)) (w.drew.alloc (.cells (xs.toArray ++ Builtin.zeroCells z.cells m ++ Builtin.zeroCells z.cells (grownCap w (n + m) cap e - (n + m))) e)) := by
        simp [Builtin.append_, run_underlying ht, run_underlying htn, sizeOf, typeInfo, zeroValue, hi, hz, asInt, asIntOf, hw, hneg, hns, h48i, hn, h63', h48', Question.forced, hfo, newRow, grownCap]
      have hgr := grown cap (by omega) (Value.ownBlock (.slice (some ⟨g, 0, none⟩) n cap))
      exact ⟨_, _, hr, hgr.1, hgr.2, by simp, Or.inr rfl⟩
end
section
variable {s : Nat} {w w' : World} {base n cap : Nat} {A : Option Addr} {vs : List Value} {S E Tn : TypeId} {z : Value} {bytes : Nat} {k kn : IntKind}
theorem own_slice {n' : Nat} {v : Value} {us : List Value} (h : w.ownsRow base E s v n' us) : ∃ A' cap', v = .slice A' n' cap' := by
  rcases h.2 with ⟨hv, h0⟩ | ⟨g, c', cur, hv, _⟩
  · exact ⟨none, 0, by rw [hv, h0]⟩
  · exact ⟨_, _, hv⟩
set_option maxRecDepth 100000 in
/-- append(s, make([]T, m)...). -/
theorem run_appZ (O : Many s S E z bytes) (htn : Try.prog.underlying Tn = some (.int kn)) (hown : OwnC s w base E A n cap vs) (m : Nat) (h1 : ∀ u ∈ zs z m, u.oneCell' = true) (hlen : n + m ≤ maxLen) (hbytes : (n + m) * bytes ≤ 140737488355328) (hbase : base ≤ w.heap.size) (ty : TypeId) :
    ∃ A' cap' w', (Builtin.append_ #[S, Tn] ty #[.slice A n cap, .int k m]).run Try.prog w = .ok (.slice A' (n + m) cap') w' ∧ GrewC s w w' base E A A' n cap (n + m) cap' (vs ++ zs z m) := by
  obtain ⟨i0, hi, hz0, hz1, hz2⟩ := info_parts O.info
  obtain ⟨v', w', hrun, h2, h3, _, h5⟩ := run_app_zeros_own (P := Try.prog) w base S Tn ty E i0 z s bytes k kn O.under htn hi hz0 hz1 hz2 O.zero O.pos (.slice A n cap) n vs hown m h1 hlen hbytes hbase
  obtain ⟨A', cap', rfl⟩ := own_slice h2
  exact ⟨A', cap', w', hrun, ⟨h2, h3, h5⟩⟩
set_option maxRecDepth 100000 in
/-- append(s, xs...), whatever lengths memory bears; xs may be nil. -/
theorem run_appL (O : Many s S E z bytes) (hown : OwnC s w base E A n cap vs) (X : Option Addr) (m c : Nat) (news : List Value) (h1 : ∀ u ∈ news, u.oneCell' = true) (hr : RdC s w X m news) (hlen : n + m ≤ maxLen) (hbytes : (n + m) * bytes ≤ 140737488355328) (hbase : base ≤ w.heap.size) (ty : TypeId) :
    ∃ A' cap' w', (Builtin.append_ #[S, S] ty #[.slice A n cap, .slice X m c]).run Try.prog w = .ok (.slice A' (n + m) cap') w' ∧ GrewC s w w' base E A A' n cap (n + m) cap' (vs ++ news) := by
  obtain ⟨i0, hi, hz0, hz1, hz2⟩ := info_parts O.info
  cases X with
  | none =>
    have hm : m = 0 := by
      rcases Nat.eq_zero_or_pos m with h | h
      · exact h
      · obtain ⟨b, o, he, _⟩ := hr.2 h
        cases he
    subst hm
    have h0 : news = [] := List.eq_nil_of_length_eq_zero (by rw [hr.1]; simp)
    subst h0
    refine ⟨A, cap, w, ?_, ?_, ⟨rfl, rfl, rfl, Nat.le_refl _, fun _ _ _ => rfl⟩, Or.inl rfl⟩
    · have hc := hown.fits
      cases A with
      | none => simp [Builtin.append_, run_underlying O.under, sizeOf, typeInfo, hi, Builtin.lenOf, Builtin.firstCells, hc]
      | some a => simp [Builtin.append_, run_underlying O.under, sizeOf, typeInfo, hi, Builtin.lenOf, Builtin.firstCells, hc, storeCells]
    · rw [List.append_nil]; exact hown
  | some ad =>
    have hnews : ∀ j u, news[j]? = some u → w.cell? (ad.add j) = some u := by
      intro j u hu
      by_cases hm : 0 < m
      · obtain ⟨b, o, he, _, hc⟩ := hr.2 hm
        injection he with he
        subst he
        have e : (⟨b, o, none⟩ : Addr).add j = ⟨b, o + j, none⟩ := by unfold Addr.add; split <;> simp_all
        rw [e]
        exact hc j _ hu
      · have h00 : m = 0 := by omega
        subst h00
        have h0 : news = [] := List.eq_nil_of_length_eq_zero (by rw [hr.1]; simp)
        subst h0
        simp at hu
    obtain ⟨v', w', hrun, h2, h3, _, h5⟩ := run_append_own_at (P := Try.prog) w base S ty E i0 z s bytes O.under hi hz0 hz1 hz2 O.zero O.pos (.slice A n cap) n vs hown ad m c news
      hr.1 hnews h1 hlen hbytes hbase
    obtain ⟨A', cap', rfl⟩ := own_slice h2
    exact ⟨A', cap', w', hrun, ⟨h2, h3, h5⟩⟩
end
end Go.Proofs.Ytamdihodconjiaa
namespace Go.Proofs.Ytamdihodconjiaa
open Go.RowKit
set_option linter.unusedVariables false
theorem own_none (w : World) (E : TypeId) : OwnC 2 (w.alloc (.cells #[] E)) w.heap.size E (some ⟨w.heap.size, 0, none⟩) 0 0 [] :=
  ⟨rfl, .inr ⟨w.heap.size, 0, #[], rfl, Nat.le_refl _, heap_alloc_new w _, Nat.le_refl _, Nat.zero_le _, rfl, rfl⟩⟩
theorem zs_all (L : Nat) : ∀ u ∈ zs (.agg #[.int .i64 0, .int .i64 0]) L, u = .int .i64 0 := by
  intro u hu
  unfold zs Builtin.zeroCells at hu
  simp only [Array.toList_map, List.mem_map] at hu
  obtain ⟨i, _, rfl⟩ := hu
  show (#[Value.int .i64 0, Value.int .i64 0] : Array Value)[i % 2]! = _
  rcases (by omega : i % 2 = 0 ∨ i % 2 = 1) with e | e <;> rw [e] <;> rfl
theorem zs_flat (L : Nat) : zs (.agg #[.int .i64 0, .int .i64 0]) L = flatFa (List.replicate L ⟨0, 0⟩) := by
  have h1 : zs (.agg #[.int .i64 0, .int .i64 0]) L = List.replicate (L * 2) (.int .i64 0) := List.eq_replicate_iff.2 ⟨zs_length _ _, zs_all L⟩
  rw [h1]
  symm
  refine List.eq_replicate_iff.2 ⟨by rw [flatFa_length, List.length_replicate], fun u hu => ?_⟩
  unfold flatFa at hu
  rw [List.mem_flatMap] at hu
  obtain ⟨x, hx, hu⟩ := hu
  rw [List.eq_of_mem_replicate hx] at hu
  simp at hu
  exact hu
theorem flatFa_one (l : List Dk.Fa) : ∀ u ∈ flatFa l, u.oneCell' = true := by
  intro u hu
  unfold flatFa at hu
  rw [List.mem_flatMap] at hu
  obtain ⟨x, _, hu⟩ := hu
  simp at hu
  rcases hu with rfl | rfl <;> rfl
theorem flatFa_app (l r : List Dk.Fa) : flatFa (l ++ r) = flatFa l ++ flatFa r := by unfold flatFa; rw [List.flatMap_append]
set_option maxRecDepth 100000 in
theorem run_app1 (v : World) (X : Option Addr) (m c : Nat) (fs : List Dk.Fa) (hr : RdC 2 v X m (flatFa fs)) (hm : m * 16 ≤ 140737488351232) (ty : TypeId) :
    ∃ A' cap' w', (Builtin.append_ #[36, 36] ty #[.slice (some ⟨v.heap.size, 0, none⟩) 0 0, .slice X m c]).run Try.prog (v.alloc (.cells #[] 55)) = .ok (.slice A' m cap') w' ∧ OwnC 2 w' v.heap.size 55 A' m cap' (flatFa fs) ∧ Below v.heap.size v w' := by
  have hb : Below v.heap.size v (v.alloc (.cells #[] 55)) := (Below.refl _ _).alloc (Nat.le_refl _) _
  obtain ⟨A', cap', w', hrun, hg⟩ := run_appL manyFa (own_none v 55) X m c (flatFa fs) (flatFa_one fs) (hr.below hb) (by simp only [maxLen]; omega) (by omega) hb.size ty
  have ho := hg.own
  rw [Nat.zero_add] at hrun ho
  exact ⟨A', cap', w', hrun, ho, hg.below hb hb.size fun g e => ((own_none v 55).blk g e).1⟩
set_option maxRecDepth 100000 in
theorem run_app2 (v w : World) (A : Option Addr) (n cap : Nat) (fs : List Dk.Fa) (ho : OwnC 2 w v.heap.size 55 A n cap (flatFa fs)) (hb : Below v.heap.size v w) (L : Nat) (hL : L ≤ 12) (hm : n * 16 ≤ 140737488351232) (ty : TypeId) :
    ∃ A' cap' w', (Builtin.append_ #[36, 3] ty #[.slice A n cap, .int .i64 L]).run Try.prog w = .ok (.slice A' (n + L) cap') w' ∧ RdC 2 w' A' (n + L) (flatFa (fs ++ List.replicate L ⟨0, 0⟩)) ∧ Below v.heap.size v w' := by
  obtain ⟨A', cap', w', hrun, hg⟩ := run_appZ manyFa (Tn := 3) (k := .i64) Try.underlying3 ho L (fun u hu => by rw [zs_all L u hu]; rfl) (by simp only [maxLen]; omega) (by omega) hb.size ty
  refine ⟨A', cap', w', hrun, ?_, hg.below hb hb.size fun g e => (ho.blk g e).1⟩
  have := hg.own.rd
  rw [zs_flat, ← flatFa_app] at this
  exact this
theorem own_at {w : World} {base b n cap i : Nat} {E : TypeId} {fs : List Dk.Fa} {f : Dk.Fa} (h : OwnC 2 w base E (some ⟨b, 0, none⟩) n cap (flatFa fs)) (hn : 0 < n) (hf : fs[i]? = some f) :
    w.cell? ⟨b, i * 2, none⟩ = some (.int .i64 f.k) ∧ w.cell? ⟨b, i * 2 + 1, none⟩ = some (.int .i64 f.c) := by
  obtain ⟨b', o, he, _, hc⟩ := h.rd.2 hn
  injection he with he
  injection he with h1 h2 h3
  subst h1
  subst h2
  obtain ⟨k1, k2⟩ := flatFa_at hf
  have e1 := hc _ _ k1
  have e2 := hc _ _ k2
  rw [Nat.zero_add] at e1 e2
  exact ⟨e1, e2⟩
theorem own_free {w : World} {base b n cap : Nat} {E : TypeId} {vs : List Value} (h : OwnC 2 w base E (some ⟨b, 0, none⟩) n cap vs) (j : Nat) : w.frozen? ⟨b, j, none⟩ = false := by
  rcases h.2 with ⟨hv, _⟩ | ⟨g, c, cur, hv, _, hg, _⟩
  · cases hv
  · injection hv with h1 _ _
    injection h1 with h1
    injection h1 with h1 _ _
    subst h1
    exact frozen_of_row _ _ _ _ _ hg
end Go.Proofs.Ytamdihodconjiaa
namespace Go.Proofs.Ytamdihodconjiaa
open Go.RowKit
set_option linter.unusedVariables false
theorem flatFa_set (f : Dk.Fa) : ∀ (Q : List Dk.Fa) (K : Nat), ((flatFa Q).set (K * 2) (.int .i64 f.k)).set (K * 2 + 1) (.int .i64 f.c) = flatFa (Q.set K f)
  | [], K => by simp [flatFa]
  | x :: Q, 0 => rfl
  | x :: Q, K + 1 => by
    have e1 : (K + 1) * 2 = K * 2 + 1 + 1 := by omega
    have e2 : (K + 1) * 2 + 1 = K * 2 + 1 + 1 + 1 := by omega
    rw [e1]
    show Value.int .i64 x.k :: Value.int .i64 x.c :: ((flatFa Q).set (K * 2) (.int .i64 f.k)).set (K * 2 + 1) (.int .i64 f.c) = Value.int .i64 x.k :: Value.int .i64 x.c :: flatFa (Q.set K f)
    rw [flatFa_set f Q K]
theorem own_put {v : World} {B b n cap i : Nat} {E : TypeId} {fs : List Dk.Fa} (h : OwnC 2 v B E (some ⟨b, 0, none⟩) n cap (flatFa fs)) (f : Dk.Fa) :
    RdC 2 ((v.setCell ⟨b, i * 2, none⟩ (.int .i64 f.k)).setCell ⟨b, i * 2 + 1, none⟩ (.int .i64 f.c)) (some ⟨b, 0, none⟩) n (flatFa (fs.set i f)) := by
  have h1 : OwnC 2 (v.setCell ⟨b, i * 2, none⟩ (.int .i64 f.k)) B E (some ⟨b, 0, none⟩) n cap ((flatFa fs).set (i * 2) (.int .i64 f.k)) := (World.ownsRow.stored h _ _).1
  have h2 : OwnC 2 ((v.setCell ⟨b, i * 2, none⟩ (.int .i64 f.k)).setCell ⟨b, i * 2 + 1, none⟩ (.int .i64 f.c)) B E (some ⟨b, 0, none⟩) n cap (((flatFa fs).set (i * 2) (.int .i64 f.k)).set (i * 2 + 1) (.int .i64 f.c)) := (World.ownsRow.stored h1 _ _).1
  rw [flatFa_set] at h2
  exact h2.rd
end Go.Proofs.Ytamdihodconjiaa
namespace Go.Proofs.Ytamdihodconjiaa
open Go.ChangeShapes Go.WideShapes Go.ChangeAt Go.RowKit Go.Deep
section
variable {H : Type} {enc : TypeId × Value → H} {W : World} {base : Nat} {v : Value} {d : DataW H} {p : List MemPlace}
theorem slice_read {t e : TypeId} (ht : Try.prog.underlying t = some (.slice e)) {A : Option Addr} {n cap : Nat} (h : Reads enc W t (.slice A n cap) d p) : 0 < n → ∃ D S, d = .slice D S ∧ D.length = n := by
  intro hn
  obtain ⟨fuel, hf⟩ := h
  rcases open_slice ht hf with ⟨hcs, _⟩ | ⟨a, len, c0, m, k, D, Pl, hcs, hb, hl, hm, hmm, hx, hi⟩
  · simp [Value.cells] at hcs
    omega
  · simp [Value.cells] at hcs
    obtain ⟨_, rfl, _⟩ := hcs
    simp only [Prod.mk.injEq] at hx
    exact ⟨_, _, hx.1, by simp⟩
theorem bytes_fate : Try.prog.bytesOf 55 = 16 := by kernel_rfl
set_option maxRecDepth 100000 in
theorem in_fates {ts : List TypeId} {ds : List (DataW H)} (hsz : (DataW.weightsEach Try.prog ts ds).all (· ≤ reachBytes) = true) (j : Nat) (htj : ts[j]? = some 36) (hdj : ds[j]? = some d) (hval : Value.okWide Try.prog W .any base 36 v) (h : Reads enc W 36 v d p) :
    ∃ (A : Option Addr) (n cap : Nat) (l : List Dk.Fa), v = .slice A n cap ∧ l.length = n ∧ RdC 2 W A n (flatFa l) ∧ n * 16 ≤ 140737488351232 := by
  obtain ⟨A, n, cap, rfl, hc, hn, hr⟩ := in_structs Try.underlying36 Try.underlying55 (by kernel_rfl) cells_fate (by decide) hval h
  by_cases h0 : 0 < n
  · obtain ⟨D, S, hd, hD⟩ := slice_read Try.underlying36 h h0
    have hsmall : n * 16 ≤ 140737488351232 := by
      subst hd
      have := sized_slice hsz htj hdj Try.underlying36
      rw [bytes_fate, hD] at this
      simp only [reachBytes] at this
      omega
    obtain ⟨b, o, rfl, hb, he⟩ := hr h0
    obtain ⟨l, hl, hp⟩ := exists_list (α := Dk.Fa) (P := fun i s => W.cell? ⟨b, o + (i * 2 + 0), none⟩ = some (.int .i64 s.k) ∧ W.cell? ⟨b, o + (i * 2 + 1), none⟩ = some (.int .i64 s.c)) n (fun i hi => by
      obtain ⟨u0, c0, m0, y0, r0⟩ := he i hi 0 _ rfl
      obtain ⟨u1, c1, m1, y1, r1⟩ := he i hi 1 _ rfl
      obtain ⟨a0, rfl, w0⟩ := one_int Try.underlying3 r0
      obtain ⟨a1, rfl, w1⟩ := one_int Try.underlying3 r1
      exact ⟨⟨a0, a1⟩, c0, c1⟩)
    refine ⟨some ⟨b, o, none⟩, n, cap, l, rfl, hl, ⟨by rw [flatFa_length, hl], fun _ => ⟨b, o, rfl, hb, fun j u hu => ?_⟩⟩, hsmall⟩
    obtain ⟨q, hq, hx⟩ := flatFa_get hu
    obtain ⟨c0, c1⟩ := hp _ _ hq
    by_cases hm : j % 2 = 0
    · rw [if_pos hm] at hx
      rw [hx, show o + j = o + (j / 2 * 2 + 0) by omega]
      exact c0
    · rw [if_neg hm] at hx
      rw [hx, show o + j = o + (j / 2 * 2 + 1) by omega]
      exact c1
  · have : n = 0 := by omega
    subst this
    exact ⟨A, 0, cap, [], rfl, rfl, RdC.nil 2 W A, by omega⟩
end
end Go.Proofs.Ytamdihodconjiaa
namespace Go.Proofs.Ytamdihodconjiaa
open Go.RowKit
set_option linter.unusedVariables false
theorem crashL_at {L : List Dk.Sec} : ∀ {i k : Nat} {x : Nat × Nat} {fs : List Dk.Fa} {f : Dk.Fa}, (Dk.looseF i L)[k]? = some x → fs[k]? = some f → ∃ a s, x.1 = i + a ∧ x.2 = s.l.length ∧ L[a]? = some s ∧ (Dk.crashL L fs)[a]? = some ⟨s.after f, []⟩ := by
  induction L with
  | nil => intro i k x fs f h _; simp [Dk.looseF] at h
  | cons y r ih =>
    intro i k x fs f h hf
    unfold Dk.looseF at h
    split at h
    · rename_i hy
      obtain ⟨a, s, h1, h2, h3, h4⟩ := ih h hf
      refine ⟨a + 1, s, by omega, h2, by simpa using h3, ?_⟩
      unfold Dk.crashL
      rw [if_pos hy]
      simpa using h4
    · rename_i hy
      cases fs with
      | nil => simp at hf
      | cons g gs =>
        match k, h, hf with
        | 0, h, hf =>
          simp at h hf
          subst h; subst hf
          refine ⟨0, y, rfl, rfl, rfl, ?_⟩
          unfold Dk.crashL
          rw [if_neg hy]
          rfl
        | k + 1, h, hf =>
          simp only [List.getElem?_cons_succ] at h hf
          obtain ⟨a, s, h1, h2, h3, h4⟩ := ih h hf
          refine ⟨a + 1, s, by omega, h2, by simpa using h3, ?_⟩
          unfold Dk.crashL
          rw [if_neg hy]
          simpa using h4
theorem fit_of {l : List (Nat × Nat)} : ∀ {fs : List Dk.Fa}, fs.length ≤ l.length → (∀ (i : Nat) (f : Dk.Fa) (x : Nat × Nat), fs[i]? = some f → l[i]? = some x → f.ok x.2) → Dk.fit fs l = true := by
  induction l with
  | nil => intro fs h _; cases fs with
    | nil => rfl
    | cons => simp at h
  | cons y r ih =>
    intro fs h hok
    cases fs with
    | nil => rfl
    | cons f fs =>
      unfold Dk.fit
      rw [decide_eq_true (hok 0 f y rfl rfl), ih (by simpa using h) fun i g x h1 h2 => hok (i + 1) g x (by simpa using h1) (by simpa using h2)]
      rfl
theorem Fits.fit {l : List (Nat × Nat)} {k : Nat} {fs : List Dk.Fa} (h : Fits l k fs) (hk : k ≤ l.length) : Dk.fit fs l = true := fit_of (by rw [h.1]; exact hk) h.2
theorem Fits.set {l : List (Nat × Nat)} {n k : Nat} {fs gs : List Dk.Fa} {f : Dk.Fa} (h : Fits l n fs) (hg : Fits l n gs) (hk : gs[k]? = some f) : Fits l n (fs.set k f) := by
  refine ⟨by rw [List.length_set, h.1], fun i g x h1 h2 => ?_⟩
  rw [List.getElem?_set] at h1
  split at h1
  · rename_i e
    subst e
    split at h1
    · injection h1 with h1
      subst h1
      exact hg.2 _ _ _ hk h2
    · cases h1
  · exact h.2 i g x h1 h2
theorem Fits.crashE {st : Dk.St} {fs : List Dk.Fa} (h : Fits st.loose st.loose.length fs) : st.crashE fs = 0 := by
  unfold Dk.St.crashE
  rw [if_neg (by rw [h.1]; omega), if_pos (h.fit (Nat.le_refl _))]
/-- What is read behind the crash where sector l[k] lies. -/
theorem crash_read {st : Dk.St} {k : Nat} {x : Nat × Nat} {fs : List Dk.Fa} {f : Dk.Fa} (hl : st.loose[k]? = some x) (hf : fs[k]? = some f) :
    ∃ s, st.s[x.1]? = some s ∧ x.2 = s.l.length ∧ (st.crash fs).ready (x.1 : Int) = 0 ∧ (st.crash fs).readB (x.1 : Int) = s.after f := by
  obtain ⟨a, s, h1, h2, h3, h4⟩ := crashL_at (i := 0) hl hf
  have ha : x.1 = a := by omega
  subst ha
  have hlt : x.1 < (Dk.crashL st.s fs).length := (List.getElem?_eq_some_iff.1 h4).1
  have hr : (st.crash fs).ready (x.1 : Int) = 0 := by
    unfold Dk.St.ready Dk.St.crash Dk.St.down Dk.St.has
    simp [hlt]
  refine ⟨s, h3, h2, hr, ?_⟩
  unfold Dk.St.readB
  rw [if_pos hr]
  unfold Dk.St.sec Dk.St.crash
  rw [Int.toNat_natCast, h4]
  rfl
theorem Half.below {a w w1 w2 : World} {d g : Nat} {st st1 : Dk.St} {lab labR lab1 : Nat → Tag} (h : Half a w w1 d g st st1 lab labR lab1) (hb : Below w1.heap.size w1 w2) : Half a w w2 d g st st1 lab labR lab1 :=
  ⟨h.base.trans (hb.mono h.base.size), h.disk.below hb, h.ref.below hb, h.la, h.apart, h.stay, ⟨Nat.le_trans h.fr.size hb.size, fun k hk h1 h2 => (hb.block k (Nat.lt_of_lt_of_le hk h.fr.size)).trans (h.fr.block k hk h1 h2)⟩⟩
theorem duo_new {w w1 w2 w3 : World} {d g : Nat} {k : Int} {lab labR : Nat → Tag} (hb1 : Below w.heap.size w w1) (hD : IsDisk w2 d lab (Dk.St.new k.toNat)) (hb2 : Below w1.heap.size w1 w2) (hl : ∀ x, lab x ≠ .no → w1.heap.size ≤ x) (hR : IsRef w3 g labR (Dk.St.new k.toNat)) (hb3 : Below w2.heap.size w2 w3) (hl3 : ∀ x, labR x ≠ .no → w2.heap.size ≤ x) : Duo w w3 d g (Dk.St.new k.toNat) 0 lab labR := by
  have s1 := hb1.size
  have s2 := hb2.size
  refine ⟨hb1.trans ((hb2.trans (hb3.mono hb2.size)).mono hb1.size), hD.below hb3, hR, fun x hx => Nat.le_trans s1 (hl x hx), fun x hx => Nat.le_trans s1 (Nat.le_trans s2 (hl3 x hx)), fun x => ?_, (Plain.new k.toNat 0).low⟩
  by_cases e : x < w2.heap.size
  · right
    cases e4 : labR x with
    | no => rfl
    | _ => exact absurd (hl3 x (by rw [e4]; simp)) (by omega)
  · left
    exact hD.new_ (by omega)
end Go.Proofs.Ytamdihodconjiaa
