/- The document's Put. -/
import Derived.Test.YtfmbnoafmnbhcaaMmLaid
import Derived.Test.YtfmbnoafmnbhcaaMmLevA
import Derived.Deep.RegionHeld3
namespace Go.Proofs.Ytfmbnoafmnbhcaa
open Go.RowKit
namespace Bk
/-- Is one of that key and that number in a row? -/
def has (es : List P) (x : P) : Prop := ∃ y ∈ es, y.1.key = x.1.key ∧ y.1.seq = x.1.seq
open Classical in
/-- What the document's Put tells. -/
noncomputable def rputE (es : List P) (top : Int) (x : P) : Int := if ok x.1 = false then 100 else if x.1.seq < top ∨ has es x then 101 else 0
end Bk
/-- A row of entries, in none of these blocks. -/
structure RdS (S : Nat → Prop) (w : World) (A : Option Addr) (n : Nat) (es : List Bk.P) : Prop where
  rd : RdE w A n es
  av : Av S A n
  vals : ∀ q ∈ es, Av S q.2.1 q.2.2.1
theorem RdS.sm {S : Nat → Prop} {w w' : World} {A : Option Addr} {n : Nat} {es : List Bk.P} (h : RdS S w A n es) (hs : Sm S w w') : RdS S w' A n es :=
  ⟨⟨h.rd.1, h.rd.2.1.sm hs h.av, fun p hp => ⟨(h.rd.2.2 p hp).1.sm hs (h.vals p hp), (h.rd.2.2 p hp).2⟩⟩, h.av, h.vals⟩
theorem RdS.below {S : Nat → Prop} {w w' : World} {A : Option Addr} {n : Nat} {es : List Bk.P} (h : RdS S w A n es) (hb : Below w.heap.size w w') : RdS S w' A n es := h.sm (.of_below hb)
/-- What the document's Put hands back. -/
def GivesRPut (S : Nat → Prop) (w : World) (es : List Bk.P) (top : Int) (x : Bk.P) (e : Ending) (w' : World) : Prop :=
  ∃ (A : Option Addr) (c : Nat) (es' : List Bk.P) (top' : Int), e = .returned (.tuple #[.agg #[.slice A es'.length c, .int .i64 top'], .int .i64 (Bk.rputE es top x)]) ∧ RdS S w' A es'.length es' ∧ Below w.heap.size w w' ∧ (Bk.rputE es top x ≠ 0 → es' = es ∧ top' = top) ∧ (Bk.rputE es top x = 0 → es' = Bk.laid x es ∧ top' = x.1.seq)
theorem rput_boxes (w : World) (A : Option Addr) (n c : Nat) (top : Int) (xs : Array Value) : Holds (((w.alloc (.cells #[Value.slice A n c, .int .i64 top] 34)).alloc (.cells xs 24)).alloc (.cells #[Value.slice none 0 0, .int .i64 0] 34)) w.heap.size [.slice A n c, .int .i64 top] ∧
    Holds (((w.alloc (.cells #[Value.slice A n c, .int .i64 top] 34)).alloc (.cells xs 24)).alloc (.cells #[Value.slice none 0 0, .int .i64 0] 34)) (w.heap.size + 1) xs.toList ∧
    Holds (((w.alloc (.cells #[Value.slice A n c, .int .i64 top] 34)).alloc (.cells xs 24)).alloc (.cells #[Value.slice none 0 0, .int .i64 0] 34)) (w.heap.size + 1 + 1) [.slice none 0 0, .int .i64 0] ∧
    Below w.heap.size w (((w.alloc (.cells #[Value.slice A n c, .int .i64 top] 34)).alloc (.cells xs 24)).alloc (.cells #[Value.slice none 0 0, .int .i64 0] 34)) := by
  have h1 := Holds.new w #[Value.slice A n c, .int .i64 top] 34
  have h2 := Holds.new (w.alloc (.cells #[Value.slice A n c, .int .i64 top] 34)) xs 24
  have h3 := Holds.new ((w.alloc (.cells #[Value.slice A n c, .int .i64 top] 34)).alloc (.cells xs 24)) #[Value.slice none 0 0, .int .i64 0] 34
  rw [World.size_alloc] at h2
  rw [World.size_alloc, World.size_alloc] at h3
  exact ⟨(h1.alloc _).alloc _, h2.alloc _, h3, (((Below.refl _ _).alloc (Nat.le_refl _) _).alloc (by simp) _).alloc (by simp; omega) _⟩
theorem Holds.set2 {w : World} {b : Nat} {x y : Value} (k : Holds w b [x, y]) (x' y' : Value) : Holds ((w.setCell ⟨b, 0, none⟩ x').setCell ⟨b, 1, none⟩ y') b [x', y'] := (k.set 0 x' (by simp)).set 1 y' (by simp)
/-- What the refusing ways leave. -/
theorem rput_no {S : Nat → Prop} {w v : World} {A : Option Addr} {n c : Nat} {es : List Bk.P} {top : Int} {y0 y1 : Value} (hr : RdS S w A n es) (hB : Below w.heap.size w v) (hZ : Holds v (w.heap.size + 1 + 1) [y0, y1]) :
    ∃ v', v' = ((v.setCell ⟨w.heap.size + 1 + 1, 0, none⟩ (.slice A n c)).setCell ⟨w.heap.size + 1 + 1, 1, none⟩ (.int .i64 top)) ∧ Holds v' (w.heap.size + 1 + 1) [.slice A n c, .int .i64 top] ∧ RdS S v' A n es ∧ Below w.heap.size w v' := by
  have hb := below_set (below_set hB ⟨w.heap.size + 1 + 1, 0, none⟩ (.slice A n c) (by show w.heap.size ≤ w.heap.size + 1 + 1; omega)) ⟨w.heap.size + 1 + 1, 1, none⟩ (.int .i64 top) (by show w.heap.size ≤ w.heap.size + 1 + 1; omega)
  exact ⟨_, rfl, hZ.set2 _ _, hr.below hb, hb⟩
theorem rput_cells {v u : World} {b : Nat} {A : Option Addr} {n c : Nat} {top : Int} {z0 z1 z2 z3 r0 r1 : Value} (h1 : Holds v b [.slice A n c, .int .i64 top]) (h2 : Holds v (b + 1) [z0, z1, z2, z3]) (h3 : Holds v (b + 1 + 1) [r0, r1]) (hu : Below v.heap.size v u) :
    (u.cell? ⟨b, 0, none⟩ = some (.slice A n c) ∧ u.cell? ⟨b + 1, 0, none⟩ = some z0 ∧ u.cell? ⟨b + 1, 1, none⟩ = some z1 ∧ u.cell? ⟨b + 1, 2, none⟩ = some z2 ∧ u.cell? ⟨b + 1, 3, none⟩ = some z3) ∧ u.cell? ⟨b + 1 + 1, 0, none⟩ = some r0 ∧ u.cell? ⟨b + 1 + 1, 1, none⟩ = some r1 ∧ ∀ i, u.frozen? ⟨b + 1 + 1, i, none⟩ = false := by
  have k1 := h1.below hu
  have k2 := h2.below hu
  have k3 := h3.below hu
  exact ⟨⟨k1.2.1 0 _ rfl, k2.2.1 0 _ rfl, k2.2.1 1 _ rfl, k2.2.1 2 _ rfl, k2.2.1 3 _ rfl⟩, k3.2.1 0 _ rfl, k3.2.1 1 _ rfl, k3.2.2⟩
theorem rput_cells2 {u : World} {b : Nat} {A : Option Addr} {n c : Nat} {top : Int} {z0 z1 z2 z3 r0 r1 : Value} (h1 : Holds u b [.slice A n c, .int .i64 top]) (h2 : Holds u (b + 1) [z0, z1, z2, z3]) (h3 : Holds u (b + 1 + 1) [r0, r1]) (u0 u1 : Value) :
    (((u.setCell ⟨b + 1 + 1, 0, none⟩ u0).setCell ⟨b + 1 + 1, 1, none⟩ u1).cell? ⟨b, 0, none⟩ = some (.slice A n c) ∧ ((u.setCell ⟨b + 1 + 1, 0, none⟩ u0).setCell ⟨b + 1 + 1, 1, none⟩ u1).cell? ⟨b + 1, 0, none⟩ = some z0 ∧ ((u.setCell ⟨b + 1 + 1, 0, none⟩ u0).setCell ⟨b + 1 + 1, 1, none⟩ u1).cell? ⟨b + 1, 1, none⟩ = some z1 ∧ ((u.setCell ⟨b + 1 + 1, 0, none⟩ u0).setCell ⟨b + 1 + 1, 1, none⟩ u1).cell? ⟨b + 1, 2, none⟩ = some z2 ∧ ((u.setCell ⟨b + 1 + 1, 0, none⟩ u0).setCell ⟨b + 1 + 1, 1, none⟩ u1).cell? ⟨b + 1, 3, none⟩ = some z3) ∧ Holds ((u.setCell ⟨b + 1 + 1, 0, none⟩ u0).setCell ⟨b + 1 + 1, 1, none⟩ u1) (b + 1 + 1) [u0, u1] := by
  have k1 : Holds ((u.setCell ⟨b + 1 + 1, 0, none⟩ u0).setCell ⟨b + 1 + 1, 1, none⟩ u1) b _ := (h1.other (by omega)).other (by omega)
  have k2 : Holds ((u.setCell ⟨b + 1 + 1, 0, none⟩ u0).setCell ⟨b + 1 + 1, 1, none⟩ u1) (b + 1) _ := (h2.other (by omega)).other (by omega)
  exact ⟨⟨k1.2.1 0 _ rfl, k2.2.1 0 _ rfl, k2.2.1 1 _ rfl, k2.2.1 2 _ rfl, k2.2.1 3 _ rfl⟩, h3.set2 u0 u1⟩
theorem rput_end {S : Nat → Prop} {w z v : World} {A B : Option Addr} {n c : Nat} {es : List Bk.P} {x : Bk.P} {u0 u1 : Value} (hS : ∀ k, S k → k < w.heap.size) (hR : RdS S w A n es) (hX : Bk.AtS S w x) (_hf : (Bk.laid x es).length ≤ c) (hO : OwnC 4 v z.heap.size 24 B (Bk.laid x es).length c (Bk.flat (Bk.laid x es))) (hB : Below w.heap.size w v) (hz : Below w.heap.size w z)
    (hH : Holds ((v.setCell ⟨w.heap.size + 1 + 1, 0, none⟩ u0).setCell ⟨w.heap.size + 1 + 1, 1, none⟩ u1) (w.heap.size + 1 + 1) [u0, u1]) (hlt : w.heap.size + 1 + 1 < z.heap.size := by assumption) :
    ∃ v', v' = ((v.setCell ⟨w.heap.size + 1 + 1, 0, none⟩ u0).setCell ⟨w.heap.size + 1 + 1, 1, none⟩ u1) ∧ Holds v' (w.heap.size + 1 + 1) [u0, u1] ∧ RdS S v' B (Bk.laid x es).length (Bk.laid x es) ∧ Below w.heap.size w v' := by
  have hb := below_set (below_set hB ⟨w.heap.size + 1 + 1, 0, none⟩ u0 (by show w.heap.size ≤ w.heap.size + 1 + 1; omega)) ⟨w.heap.size + 1 + 1, 1, none⟩ u1 (by show w.heap.size ≤ w.heap.size + 1 + 1; omega)
  have ho : ∀ g, (Value.slice B (Bk.laid x es).length c).ownBlock = some g → z.heap.size ≤ g := fun g e => (hO.blk g e).1
  have hne : some (w.heap.size + 1 + 1) = none ∨ ∀ g, some (w.heap.size + 1 + 1) = some g → (Value.slice B (Bk.laid x es).length c).ownBlock ≠ some g := .inr fun g e e2 => by injection e with e; have := ho g e2; omega
  have hO2 : OwnC 4 ((v.setCell ⟨w.heap.size + 1 + 1, 0, none⟩ u0).setCell ⟨w.heap.size + 1 + 1, 1, none⟩ u1) z.heap.size 24 B (Bk.laid x es).length c (Bk.flat (Bk.laid x es)) := (hO.grown (grown_setCell v ⟨w.heap.size + 1 + 1, 0, none⟩ u0) hne).grown (grown_setCell _ ⟨w.heap.size + 1 + 1, 1, none⟩ u1) hne
  refine ⟨_, rfl, hH, ⟨⟨rfl, hO2.rd, fun p hp => ?_⟩, fun h0 g o e hs => ?_, fun p hp => ?_⟩, hb⟩
  · rcases Bk.laid_mem.1 hp with rfl | hp
    · exact hX.1.below hb
    · exact (hR.rd.2.2 p hp).below hb
  · obtain ⟨g', e', h1, _⟩ := hO2.form h0
    rw [e] at e'
    injection e' with e'
    injection e' with e'
    have := hS g hs
    have := hz.size
    omega
  · rcases Bk.laid_mem.1 hp with rfl | hp
    · exact hX.2
    · exact hR.vals p hp
theorem rput_more {es : List Bk.P} {k : Nat} {y : Bk.P} {key : ByteArray} {seq : Int} (h : ∀ z ∈ es.take k, ¬ (z.1.key = key ∧ z.1.seq = seq)) (hy : es[k]? = some y) (hn : ¬ (y.1.key = key ∧ y.1.seq = seq)) : ∀ z ∈ es.take (k + 1), ¬ (z.1.key = key ∧ z.1.seq = seq) := by
  intro z hz
  rw [List.take_add_one, hy] at hz
  rcases List.mem_append.1 hz with hz | hz
  · exact h z hz
  · rcases List.mem_singleton.1 hz with rfl
    exact hn
set_option maxRecDepth 100000 in
set_option maxHeartbeats 8000000 in
theorem rput_any (S : Nat → Prop) (A : Option Addr) (n c : Nat) (es : List Bk.P) (top : Int) (x : Bk.P) (w : World) (hS : ∀ k, S k → k < w.heap.size) (hr : RdS S w A n es) (hx : Bk.AtS S w x) (hn : n ≤ 100000) :
    Calls Try.prog 30 #[.agg #[.slice A n c, .int .i64 top], .agg (Bk.cells x).toArray] w (GivesRPut S w es top x) := by
  have Ck := Lib.hid (fun (u : World) (hu : Below w.heap.size w u) => rcheck_any x u (hx.1.below hu))
  have Ld := Lib.hid (fun (u : World) (hu : Below w.heap.size w u) => rlaid_any A n c es x u (hr.rd.below hu) hn)
  have HS := Lib.hid hS
  have HR := Lib.hid hr
  have HX := Lib.hid hx
  have HL := Lib.hid hr.rd.1
  clear hS hr hx
  obtain ⟨⟨key, seq, del, val⟩, V, vn, vc⟩ := x
  have hvn := HX.out.1.2.2.2.2.2
  show Calls _ _ #[.agg #[.slice A n c, .int .i64 top], .agg #[.string key, .int .i64 seq, .bool del, .slice V vn vc]] _ _
  have HZ := Lib.hid (rput_boxes w A n c top #[Value.string key, .int .i64 seq, .bool del, .slice V vn vc])
  have Ld2 : Hid (∀ u, Below w.heap.size w u → Calls Try.prog 37 #[.slice A n c, .agg #[.string key, .int .i64 seq, .bool del, .slice V vn vc]] u (GivesLaid u (Bk.laid (⟨key, seq, del, val⟩, V, vn, vc) es))) := Lib.hid Ld.out
  clear Ld
  by_cases hok : Bk.ok (⟨key, seq, del, val⟩ : Bk.En) = true
  case neg =>
    have HF := Lib.hid (show Bk.rputE es top (⟨key, seq, del, val⟩, V, vn, vc) = 100 by unfold Bk.rputE; rw [if_pos (by simpa using hok)])
    have Ck2 : Hid (∀ u, Below w.heap.size w u → Calls Try.prog 12 #[.agg #[.string key, .int .i64 seq, .bool del, .slice V vn vc]] u fun e w' => e = .returned (.int .i64 100) ∧ Below u.heap.size u w') := Lib.hid (fun u hu => by have h := Ck.out u hu; rw [if_neg hok] at h; exact h)
    go_enter Try.func30, Try.ntmps30
    go_wp2_with fail
    generalize ((w.alloc (.cells #[Value.slice A n c, .int .i64 top] 34)).alloc (.cells #[Value.string key, .int .i64 seq, .bool del, .slice V vn vc] 24)).alloc (.cells #[Value.slice none 0 0, .int .i64 0] 34) = v at HZ ⊢
    have HV := Lib.hid HZ.out.2.2.2
    have b0 := HZ.out.2.1.2.1 0 _ rfl
    have b1 := HZ.out.2.1.2.1 1 _ rfl
    have b2 := HZ.out.2.1.2.1 2 _ rfl
    have b3 := HZ.out.2.1.2.1 3 _ rfl
    clear hok Ck
    go_wp2_with (go_at_call 12; refine (Ck2.out _ HV.out).mono ?_; rintro e v2 ⟨rfl, hb2⟩; have HB2 := Lib.hid (below_next HV.out hb2); have HH := Lib.hid (And.intro (HZ.out.1.below hb2) (And.intro (HZ.out.2.1.below hb2) (HZ.out.2.2.1.below hb2))); clear hb2; have a0 := HH.out.1.2.1 0 _ rfl; have a1 := HH.out.1.2.1 1 _ rfl; have k0 := HH.out.2.1.2.1 0 _ rfl; have k1 := HH.out.2.1.2.1 1 _ rfl; have k2 := HH.out.2.1.2.1 2 _ rfl; have k3 := HH.out.2.1.2.1 3 _ rfl; have r0 := HH.out.2.2.2.1 0 _ rfl; have r1 := HH.out.2.2.2.1 1 _ rfl; have r2 := HH.out.2.2.2.2)
    obtain ⟨v', hv', g1, g2, g3⟩ := rput_no (c := c) (top := top) HR.out HB2.out HH.out.2.2
    rw [← hv']
    have t0 := g1.2.1 0 _ rfl
    have t1 := g1.2.1 1 _ rfl
    clear hv'
    refine bodyPost_ret (v := .tuple #[.agg #[.slice A n c, .int .i64 top], .int .i64 100]) (by simp [results, Try.results30, go_sem, t0, t1]) rfl ⟨A, c, es, top, by rw [HF.out, HL.out], by rw [HL.out]; exact g2, g3, fun _ => ⟨rfl, rfl⟩, fun e => by rw [HF.out] at e; cases e⟩
  case pos =>
    by_cases hlow : seq < top
    · have HF := Lib.hid (show Bk.rputE es top (⟨key, seq, del, val⟩, V, vn, vc) = 101 by unfold Bk.rputE; rw [if_neg (by rw [hok]; decide), if_pos (.inl hlow)])
      have Ck2 : Hid (∀ u, Below w.heap.size w u → Calls Try.prog 12 #[.agg #[.string key, .int .i64 seq, .bool del, .slice V vn vc]] u fun e w' => e = .returned (.int .i64 0) ∧ Below u.heap.size u w') := Lib.hid (fun u hu => by have h := Ck.out u hu; rw [if_pos hok] at h; exact h)
      go_enter Try.func30, Try.ntmps30
      go_wp2_with fail
      generalize ((w.alloc (.cells #[Value.slice A n c, .int .i64 top] 34)).alloc (.cells #[Value.string key, .int .i64 seq, .bool del, .slice V vn vc] 24)).alloc (.cells #[Value.slice none 0 0, .int .i64 0] 34) = v at HZ ⊢
      have HV := Lib.hid HZ.out.2.2.2
      have b0 := HZ.out.2.1.2.1 0 _ rfl
      have b1 := HZ.out.2.1.2.1 1 _ rfl
      have b2 := HZ.out.2.1.2.1 2 _ rfl
      have b3 := HZ.out.2.1.2.1 3 _ rfl
      clear hok Ck
      go_wp2_with (go_at_call 12; refine (Ck2.out _ HV.out).mono ?_; rintro e v2 ⟨rfl, hb2⟩; have HB2 := Lib.hid (below_next HV.out hb2); have HH := Lib.hid (And.intro (HZ.out.1.below hb2) (And.intro (HZ.out.2.1.below hb2) (HZ.out.2.2.1.below hb2))); clear hb2; have a0 := HH.out.1.2.1 0 _ rfl; have a1 := HH.out.1.2.1 1 _ rfl; have k0 := HH.out.2.1.2.1 0 _ rfl; have k1 := HH.out.2.1.2.1 1 _ rfl; have k2 := HH.out.2.1.2.1 2 _ rfl; have k3 := HH.out.2.1.2.1 3 _ rfl; have r0 := HH.out.2.2.2.1 0 _ rfl; have r1 := HH.out.2.2.2.1 1 _ rfl; have r2 := HH.out.2.2.2.2)
      obtain ⟨v', hv', g1, g2, g3⟩ := rput_no (c := c) (top := top) HR.out HB2.out HH.out.2.2
      rw [← hv']
      have t0 := g1.2.1 0 _ rfl
      have t1 := g1.2.1 1 _ rfl
      clear hv'
      refine bodyPost_ret (v := .tuple #[.agg #[.slice A n c, .int .i64 top], .int .i64 101]) (by simp [results, Try.results30, go_sem, t0, t1]) rfl ⟨A, c, es, top, by rw [HF.out, HL.out], by rw [HL.out]; exact g2, g3, fun _ => ⟨rfl, rfl⟩, fun e => by rw [HF.out] at e; cases e⟩
    · have HFy := Lib.hid (show Bk.has es (⟨key, seq, del, val⟩, V, vn, vc) → Bk.rputE es top (⟨key, seq, del, val⟩, V, vn, vc) = 101 from fun h => by unfold Bk.rputE; rw [if_neg (by rw [hok]; decide), if_pos (.inr h)])
      have HFn := Lib.hid (show ¬ Bk.has es (⟨key, seq, del, val⟩, V, vn, vc) → Bk.rputE es top (⟨key, seq, del, val⟩, V, vn, vc) = 0 from fun h => by unfold Bk.rputE; rw [if_neg (by rw [hok]; decide), if_neg (fun e => e.elim hlow h)])
      have Ck2 : Hid (∀ u, Below w.heap.size w u → Calls Try.prog 12 #[.agg #[.string key, .int .i64 seq, .bool del, .slice V vn vc]] u fun e w' => e = .returned (.int .i64 0) ∧ Below u.heap.size u w') := Lib.hid (fun u hu => by have h := Ck.out u hu; rw [if_pos hok] at h; exact h)
      go_enter Try.func30, Try.ntmps30
      go_wp2_with fail
      generalize ((w.alloc (.cells #[Value.slice A n c, .int .i64 top] 34)).alloc (.cells #[Value.string key, .int .i64 seq, .bool del, .slice V vn vc] 24)).alloc (.cells #[Value.slice none 0 0, .int .i64 0] 34) = v at HZ ⊢
      have HV := Lib.hid HZ.out.2.2.2
      have b0 := HZ.out.2.1.2.1 0 _ rfl
      have b1 := HZ.out.2.1.2.1 1 _ rfl
      have b2 := HZ.out.2.1.2.1 2 _ rfl
      have b3 := HZ.out.2.1.2.1 3 _ rfl
      clear hok Ck
      go_wp2_with (go_at_call 12; refine (Ck2.out _ HV.out).mono ?_; rintro e v2 ⟨rfl, hb2⟩; have HB2 := Lib.hid (below_next HV.out hb2); have HH := Lib.hid (And.intro (HZ.out.1.below hb2) (And.intro (HZ.out.2.1.below hb2) (HZ.out.2.2.1.below hb2))); clear hb2; have a0 := HH.out.1.2.1 0 _ rfl; have a1 := HH.out.1.2.1 1 _ rfl; have k0 := HH.out.2.1.2.1 0 _ rfl; have k1 := HH.out.2.1.2.1 1 _ rfl; have k2 := HH.out.2.1.2.1 2 _ rfl; have k3 := HH.out.2.1.2.1 3 _ rfl; have r0 := HH.out.2.2.2.1 0 _ rfl; have r1 := HH.out.2.2.2.1 1 _ rfl; have r2 := HH.out.2.2.2.2)
      clear a0 a1 k0 k1 k2 k3 r0 r1 r2 b0 b1 b2 b3
      go_loopw [6] (fun ii wr => ∃ k : Nat, k ≤ n ∧ ii = .int .i64 (k : Int) ∧ Hid (∀ y ∈ es.take k, ¬ (y.1.key = key ∧ y.1.seq = seq)) ∧ Hid (Below v2.heap.size v2 wr)) (fun ii _ => n - (intOf ii).toNat)
      case atStart => exact ⟨0, by omega, rfl, Lib.hid (fun y hy => by cases hy), Lib.hid (Below.refl _ _)⟩
      case round =>
        rename_i wr hrel
        obtain ⟨k, hk, rfl, HN, HW⟩ := hrel
        have a0 := (HH.out.1.below HW.out).2.1 0 _ rfl
        have k0 := (HH.out.2.1.below HW.out).2.1 0 _ rfl
        have k1 := (HH.out.2.1.below HW.out).2.1 1 _ rfl
        have k2 := (HH.out.2.1.below HW.out).2.1 2 _ rfl
        have k3 := (HH.out.2.1.below HW.out).2.1 3 _ rfl
        by_cases hlt : k < n
        · have hki : (k : Int) < (n : Int) := by omega
          obtain ⟨y, hy⟩ : ∃ y, es[k]? = some y := ⟨_, List.getElem?_eq_getElem (by rw [HL.out]; omega)⟩
          obtain ⟨b, o, rfl, hbl, hcell⟩ := (HR.out.rd.below HB2.out).at_ hy
          have c0 := (HW.out.cell (p := ⟨b, o + k * 4, none⟩) hbl).trans (hcell 0 _ rfl)
          have c1 := (HW.out.cell (p := ⟨b, o + k * 4 + 1, none⟩) hbl).trans (hcell 1 _ rfl)
          have HY := Lib.hid hy
          clear hcell hbl hy
          obtain ⟨⟨key2, seq2, del2, val2⟩, V2, n2, c2⟩ := y
          by_cases hkk : key2 = key
          · by_cases hss : seq2 = seq
            · have HF := Lib.hid (HFy.out ⟨(⟨key2, seq2, del2, val2⟩, V2, n2, c2), List.mem_of_getElem? HY.out, hkk, hss⟩)
              subst hkk hss
              have e1 := byt_same key2
              have d1 : decide (seq2 = seq2) = true := by simp
              go_wp2_with fail
              go_quiet (fail)
              have HWq := Lib.hid (below_drewN HW.out nq)
              have HHq := Lib.hid (And.intro (HH.out.1.below HWq.out) (HH.out.2.2.below HWq.out))
              have HBq := Lib.hid (below_next HB2.out HWq.out)
              clear a0 k0 k1 k2 k3 c0 c1
              generalize (World.drewN wr nq) = u at HWq HHq HBq ⊢
              have a0 := HHq.out.1.2.1 0 _ rfl
              have a1 := HHq.out.1.2.1 1 _ rfl
              have r0 := HHq.out.2.2.1 0 _ rfl
              have r1 := HHq.out.2.2.1 1 _ rfl
              have r2 := HHq.out.2.2.2
              go_wp2
              obtain ⟨v', hv', g1, g2, g3⟩ := rput_no (c := c) (top := top) HR.out HBq.out HHq.out.2
              rw [← hv']
              have t0 := g1.2.1 0 _ rfl
              have t1 := g1.2.1 1 _ rfl
              clear hv'
              refine bodyPost_ret (v := .tuple #[.agg #[.slice (some ⟨b, o, none⟩) n c, .int .i64 top], .int .i64 101]) (by simp [results, Try.results30, go_sem, t0, t1]) rfl ⟨some ⟨b, o, none⟩, c, es, top, by rw [HF.out, HL.out], by rw [HL.out]; exact g2, g3, fun _ => ⟨rfl, rfl⟩, fun e => by rw [HF.out] at e; cases e⟩
            · subst hkk
              have e1 := byt_same key2
              have d1 : decide (seq2 = seq) = false := decide_eq_false hss
              have d2 : (seq2 == seq) = false := by simpa using hss
              have HNn := Lib.hid (rput_more HN.out HY.out (fun e => hss e.2))
              go_wp2_with fail
              go_quiet (fail)
              go_wp2
              go_roundw
              case rel => exact ⟨k + 1, by omega, by go_num, HNn, Lib.hid (below_drewN HW.out nq)⟩
              case measure => simp [intOf]; omega
          · have e1 := byt_other hkk
            have e2 := byt_ne hkk
            have HNn := Lib.hid (rput_more HN.out HY.out (fun e => hkk e.1))
            clear hkk
            go_wp2_with fail
            go_quiet (fail)
            go_wp2
            go_roundw
            case rel => exact ⟨k + 1, by omega, by go_num, HNn, Lib.hid (below_drewN HW.out nq)⟩
            case measure => simp [intOf]; omega
        · have hkn : k = n := by omega
          subst hkn
          have HF := Lib.hid (HFn.out (fun ⟨y, hy, h1, h2⟩ => HN.out y (by rw [List.take_of_length_le (by rw [HL.out]; omega)]; exact hy) ⟨h1, h2⟩))
          have hnk : ¬ (k : Int) < (k : Int) := by omega
          clear hlt
          go_wp2_with fail
          have HBw := Lib.hid (below_next HB2.out HW.out)
          have HHw := Lib.hid (And.intro (HH.out.1.below HW.out) (And.intro (HH.out.2.1.below HW.out) (HH.out.2.2.below HW.out)))
          have HCl := Lib.hid (fun (u : World) (hu : Below wr.heap.size wr u) => rput_cells HHw.out.1 HHw.out.2.1 HHw.out.2.2 hu)
          have HD := Lib.hid (show Below wr.heap.size wr wr.drew from (Below.refl _ _).drew)
          have HBd := Lib.hid (below_next HBw.out HD.out)
          have q := HCl.out _ (Below.refl _ _)
          clear a0 k0 k1 k2 k3
          have r0 := HHw.out.2.2.2.1 0 _ rfl
          go_region_held3 (fun wx => wx.cell? ⟨w.heap.size, 0, none⟩ = some (.slice A k c) ∧ wx.cell? ⟨w.heap.size + 1, 0, none⟩ = some (.string key) ∧ wx.cell? ⟨w.heap.size + 1, 1, none⟩ = some (.int .i64 seq) ∧ wx.cell? ⟨w.heap.size + 1, 2, none⟩ = some (.bool del) ∧ wx.cell? ⟨w.heap.size + 1, 3, none⟩ = some (.slice V vn vc)) (first | exact q.1 | exact (HCl.out _ HL5.out).1 | exact (HCst.out _ _).1) (first
            | (go_at_call 37; (with_reducible refine (Ld2.out _ HBd.out).mono ?_); rintro e v5 ⟨B5, c5, rfl, hf5, hO5, hb5⟩; have HL5 := Lib.hid (below_next HD.out hb5); have HE5 := Lib.hid (And.intro hf5 (And.intro hO5 (below_next HBd.out hb5))); clear hf5 hO5 hb5; have HCst := Lib.hid (fun (u0 u1 : Value) => rput_cells2 (HHw.out.1.below HL5.out) (HHw.out.2.1.below HL5.out) (HHw.out.2.2.below HL5.out) u0 u1); have q5 := HCl.out _ HL5.out; obtain ⟨_, s0, s1, s2⟩ := q5))
          clear s0 s1 s2 r0 q
          have hlt2 : w.heap.size + 1 + 1 < (wr.drew).heap.size := by have := HHw.out.2.2.1; exact Nat.lt_of_lt_of_le this HD.out.size
          obtain ⟨v', hv', HEn⟩ := rput_end HS.out HR.out HX.out HE5.out.1 HE5.out.2.1 HE5.out.2.2 HBd.out (HCst.out (.slice B5 (Bk.laid (⟨key, seq, del, val⟩, V, vn, vc) es).length c5) (.int .i64 seq)).2 hlt2
          rw [← hv']
          clear hv'
          have t0 := HEn.1.2.1 0 _ rfl
          have t1 := HEn.1.2.1 1 _ rfl
          have HEnd := Lib.hid HEn.2
          clear HEn
          go_wp2
          refine bodyPost_ret (v := .tuple #[.agg #[.slice B5 (Bk.laid (⟨key, seq, del, val⟩, V, vn, vc) es).length c5, .int .i64 seq], .int .i64 0]) (by simp [results, Try.results30, go_sem, t0, t1]) rfl ⟨B5, c5, _, seq, by rw [HF.out], HEnd.out.1, HEnd.out.2, fun e => absurd HF.out e, fun _ => ⟨rfl, rfl⟩⟩
end Go.Proofs.Ytfmbnoafmnbhcaa
