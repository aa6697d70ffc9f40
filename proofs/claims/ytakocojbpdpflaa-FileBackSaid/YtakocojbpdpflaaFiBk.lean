/- One disk and sixteen frames of one file: which was written, with what, and where both copies lie. -/
import Derived.Test.YtakocojbpdpflaaFiCp
import Derived.Test.YtakocojbpdpflaaFrTwo
import Derived.Test.YtakocojbpdpflaaBBRow
namespace Go.Proofs.Ytakocojbpdpflaa
open Go.RowKit Fi Fr
open Fr Fi Go.RowKit
/-- What two arrays of the call hold of a disk with sixteen frames: the bytes that were written, and whether any were. -/
structure Bk (w : World) (st : Dk.St) (Ws Ts : List Value) : Prop where
  free : Free st 36
  wl : Ws.length = 16
  tl : Ts.length = 16
  each : ∀ k : Nat, k < 16 → (∃ (A : Option Addr) (c : Nat) (p : List Nat), Ws[k]? = some (.slice A p.length c) ∧ Ts[k]? = some (.bool true) ∧ Rd w A p.length p ∧ p.length ≤ 108 ∧ st.readB (px k : Int) = frame 3 5 3 k p ∧ st.readB (py k : Int) = frame 3 5 3 k p) ∨ (Ws[k]? = some (.slice none 0 0) ∧ Ts[k]? = some (.bool false) ∧ st.readB (px k : Int) = Dk.zeros ∧ st.readB (py k : Int) = Dk.zeros)
theorem Bk.new (w : World) : Bk w (Dk.St.new 36) (List.replicate 16 (.slice none 0 0)) (List.replicate 16 (.bool false)) := by
  refine ⟨Free.new 36, rfl, rfl, fun k hk => .inr ?_⟩
  obtain ⟨x1, x2, _⟩ := pxy hk
  exact ⟨by rw [List.getElem?_replicate, if_pos hk], by rw [List.getElem?_replicate, if_pos hk], new_zeros x1, new_zeros x2⟩
theorem pxy_far {j k : Nat} (hj : j < 16) (hk : k < 16) (h : j ≠ k) : px j ≠ px k ∧ px j ≠ py k ∧ py j ≠ px k ∧ py j ≠ py k := by
  unfold px py
  refine ⟨?_, ?_, ?_, ?_⟩ <;> split <;> split <;> omega
theorem Bk.put {w : World} {st : Dk.St} {Ws Ts : List Value} (h : Bk w st Ws Ts) {k : Nat} (hk : k < 16) {A : Option Addr} {c : Nat} {p : List Nat} (hp : Rd w A p.length p) (hl : p.length ≤ 108) :
    Bk w ((st.write (px k : Int) (frame 3 5 3 k p)).write (py k : Int) (frame 3 5 3 k p)) (Ws.set k (.slice A p.length c)) (Ts.set k (.bool true)) := by
  obtain ⟨x1, x2, x3⟩ := pxy hk
  have hF : (frame 3 5 3 k p).length = 128 := frame_len (by omega)
  obtain ⟨f1, a1, o1⟩ := h.free.write x1 hF
  obtain ⟨f2, a2, o2⟩ := f1.write x2 hF
  have hwl := h.wl
  have htl := h.tl
  refine ⟨f2, by rw [List.length_set]; exact hwl, by rw [List.length_set]; exact htl, fun j hj => ?_⟩
  by_cases e : j = k
  · subst e
    exact .inl ⟨A, c, p, List.getElem?_set_self (by omega), List.getElem?_set_self (by omega), hp, hl, (o2 _ x1 x3).trans a1, a2⟩
  · obtain ⟨y1, y2, y3⟩ := pxy hj
    obtain ⟨n1, n2, n3, n4⟩ := pxy_far hj hk e
    have r1 := (o2 _ y1 n2).trans (o1 _ y1 n1)
    have r2 := (o2 _ y2 n4).trans (o1 _ y2 n3)
    rw [List.getElem?_set_ne (fun q => e q.symm), List.getElem?_set_ne (fun q => e q.symm), r1, r2]
    exact h.each j hj
theorem RdC.set_far {s n u bt j : Nat} {v : World} {vs : List Value} {x : Value} (k : RdC s v (some ⟨bt, 0, none⟩) n vs) (hne : bt ≠ u) : RdC s (v.setCell ⟨u, j, none⟩ x) (some ⟨bt, 0, none⟩) n vs := by
  refine ⟨k.1, fun hn => ?_⟩
  obtain ⟨b, o, e, hb, hc⟩ := k.2 hn
  injection e with e
  injection e with e1 e2
  subst e1 e2
  exact ⟨_, _, rfl, by simpa [World.setCell] using hb, fun i y hy => (World.cell?_setCell_other v _ _ _ (fun e => hne (by injection e with e1 _; exact e1.symm))).trans (hc i y hy)⟩
theorem Ds.cell {w v : World} {d u j : Nat} {x : Value} {lab : Nat → Tag} {st : Dk.St} {U : List Nat} (h : Ds w v d lab st U) (hu : u ∈ U) (hw : w.heap.size ≤ u) : Ds w (v.setCell ⟨u, j, none⟩ x) d lab st U :=
  ⟨below_set h.below ⟨u, j, none⟩ x hw, h.disk.keep (by simp [World.setCell]) (fun k hk => Below.heap_setCell _ _ _ _ (fun e => hk (by rw [e]; exact (h.un u hu).1))), h.labs, fun u' hu' => ⟨(h.un u' hu').1, by simpa [World.setCell] using (h.un u' hu').2⟩⟩
/-- The disk, the place's box and the two arrays in memory. -/
structure Bs (w v : World) (d bt gb : Nat) (lab : Nat → Tag) (st : Dk.St) (Ws Ts : List Value) : Prop where
  ds : Ds w v d lab st [gb + 1 + 1, gb + 1, gb, bt]
  bk : Bk w st Ws Ts
  rt : RdC 2 v (some ⟨bt, 0, none⟩) 2 (pv [(3, 1), (0, 2)])
  box : Holds v gb [.int .i64 5, .int .i64 3, .slice (some ⟨bt, 0, none⟩) 2 2]
  hw : Holds v (gb + 1) Ws
  ht : Holds v (gb + 1 + 1) Ts
  lt : bt < gb
  old : w.heap.size ≤ gb
theorem Bs.next {w v v' : World} {d bt gb : Nat} {lab : Nat → Tag} {st : Dk.St} {Ws Ts : List Value} (h : Bs w v d bt gb lab st Ws Ts) (hb : Below v.heap.size v v') : Bs w v' d bt gb lab st Ws Ts :=
  ⟨h.ds.next hb, h.bk, h.rt.below hb, h.box.below hb, h.hw.below hb, h.ht.below hb, h.lt, h.old⟩
theorem Bs.put {w v v' : World} {d bt gb : Nat} {lab : Nat → Tag} {st : Dk.St} {Ws Ts : List Value} (h : Bs w v d bt gb lab st Ws Ts) {k : Nat} (hk : k < 16) {A : Option Addr} {c : Nat} {p : List Nat} (hp : Rd w A p.length p) (hl : p.length ≤ 108)
    (hL : Left lab d ((st.write (px k : Int) (frame 3 5 3 k p)).write (py k : Int) (frame 3 5 3 k p)) v v') :
    (Holds v' (gb + 1) Ws ∧ Holds v' (gb + 1 + 1) Ts) ∧ ∃ lab', Bs w ((v'.setCell ⟨gb + 1, k, none⟩ (.slice A p.length c)).setCell ⟨gb + 1 + 1, k, none⟩ (.bool true)) d bt gb lab' ((st.write (px k : Int) (frame 3 5 3 k p)).write (py k : Int) (frame 3 5 3 k p)) (Ws.set k (.slice A p.length c)) (Ts.set k (.bool true)) := by
  obtain ⟨lab', h1, hc⟩ := h.ds.left hL
  have u3 := (h.ds.un (gb + 1 + 1) (by simp)).1
  have u2 := (h.ds.un (gb + 1) (by simp)).1
  have u1 := (h.ds.un gb (by simp)).1
  have u0 := (h.ds.un bt (by simp)).1
  have hwl := h.bk.wl
  have htl := h.bk.tl
  have hlt := h.lt
  have hold := h.old
  have k3 := hc.holds h.ht u3
  have k2 := hc.holds h.hw u2
  have k1 := hc.holds h.box u1
  have k0 := hc.rdc h.rt (fun b o e => by injection e with e; injection e with e; rw [← e]; exact u0)
  exact ⟨⟨k2, k3⟩, lab', (h1.cell (by simp) (by omega)).cell (by simp) (by omega), h.bk.put hk hp hl, (k0.set_far (by omega)).set_far (by omega), (k1.other (by omega)).other (by omega), (k2.set k _ (by omega)).other (by omega), (k3.other (by omega)).set k _ (by omega), hlt, hold⟩
theorem bs_new {w v1 v2 : World} {d bt : Nat} {lab : Nat → Tag} (h : Ds w v1 d lab (Dk.St.new 36) []) (hb2 : Below v1.heap.size v1 v2) (hrt : RdC 2 v2 (some ⟨bt, 0, none⟩) 2 (pv [(3, 1), (0, 2)])) (hbt : v1.heap.size ≤ bt) :
    Bs w (((v2.alloc (.cells #[.int .i64 5, .int .i64 3, .slice (some ⟨bt, 0, none⟩) 2 2] 24)).alloc (.cells #[.slice none 0 0, .slice none 0 0, .slice none 0 0, .slice none 0 0, .slice none 0 0, .slice none 0 0, .slice none 0 0, .slice none 0 0, .slice none 0 0, .slice none 0 0, .slice none 0 0, .slice none 0 0, .slice none 0 0, .slice none 0 0, .slice none 0 0, .slice none 0 0] 42)).alloc (.cells #[.bool false, .bool false, .bool false, .bool false, .bool false, .bool false, .bool false, .bool false, .bool false, .bool false, .bool false, .bool false, .bool false, .bool false, .bool false, .bool false] 43)) d bt v2.heap.size lab (Dk.St.new 36) (List.replicate 16 (.slice none 0 0)) (List.replicate 16 (.bool false)) := by
  have hlb : lab bt = .no := h.disk.new_ hbt
  have hbl : bt < v2.heap.size := by obtain ⟨b, o, e, hb, _⟩ := hrt.2 (by omega); injection e with e; injection e with e; omega
  have d2 := h.next hb2
  have d5 := ((d2.add (.cells #[.int .i64 5, .int .i64 3, .slice (some ⟨bt, 0, none⟩) 2 2] 24)).add (.cells #[.slice none 0 0, .slice none 0 0, .slice none 0 0, .slice none 0 0, .slice none 0 0, .slice none 0 0, .slice none 0 0, .slice none 0 0, .slice none 0 0, .slice none 0 0, .slice none 0 0, .slice none 0 0, .slice none 0 0, .slice none 0 0, .slice none 0 0, .slice none 0 0] 42)).add (.cells #[.bool false, .bool false, .bool false, .bool false, .bool false, .bool false, .bool false, .bool false, .bool false, .bool false, .bool false, .bool false, .bool false, .bool false, .bool false, .bool false] 43)
  have s1 : (v2.alloc (.cells #[.int .i64 5, .int .i64 3, .slice (some ⟨bt, 0, none⟩) 2 2] 24)).heap.size = v2.heap.size + 1 := by simp
  have s2 : ((v2.alloc (.cells #[.int .i64 5, .int .i64 3, .slice (some ⟨bt, 0, none⟩) 2 2] 24)).alloc (.cells #[.slice none 0 0, .slice none 0 0, .slice none 0 0, .slice none 0 0, .slice none 0 0, .slice none 0 0, .slice none 0 0, .slice none 0 0, .slice none 0 0, .slice none 0 0, .slice none 0 0, .slice none 0 0, .slice none 0 0, .slice none 0 0, .slice none 0 0, .slice none 0 0] 42)).heap.size = v2.heap.size + 1 + 1 := by simp
  have k1 := ((Holds.new v2 #[.int .i64 5, .int .i64 3, .slice (some ⟨bt, 0, none⟩) 2 2] 24).alloc (.cells #[.slice none 0 0, .slice none 0 0, .slice none 0 0, .slice none 0 0, .slice none 0 0, .slice none 0 0, .slice none 0 0, .slice none 0 0, .slice none 0 0, .slice none 0 0, .slice none 0 0, .slice none 0 0, .slice none 0 0, .slice none 0 0, .slice none 0 0, .slice none 0 0] 42)).alloc (.cells #[.bool false, .bool false, .bool false, .bool false, .bool false, .bool false, .bool false, .bool false, .bool false, .bool false, .bool false, .bool false, .bool false, .bool false, .bool false, .bool false] 43)
  have k2 := (Holds.new (v2.alloc (.cells #[.int .i64 5, .int .i64 3, .slice (some ⟨bt, 0, none⟩) 2 2] 24)) #[.slice none 0 0, .slice none 0 0, .slice none 0 0, .slice none 0 0, .slice none 0 0, .slice none 0 0, .slice none 0 0, .slice none 0 0, .slice none 0 0, .slice none 0 0, .slice none 0 0, .slice none 0 0, .slice none 0 0, .slice none 0 0, .slice none 0 0, .slice none 0 0] 42).alloc (.cells #[.bool false, .bool false, .bool false, .bool false, .bool false, .bool false, .bool false, .bool false, .bool false, .bool false, .bool false, .bool false, .bool false, .bool false, .bool false, .bool false] 43)
  have k3 := Holds.new ((v2.alloc (.cells #[.int .i64 5, .int .i64 3, .slice (some ⟨bt, 0, none⟩) 2 2] 24)).alloc (.cells #[.slice none 0 0, .slice none 0 0, .slice none 0 0, .slice none 0 0, .slice none 0 0, .slice none 0 0, .slice none 0 0, .slice none 0 0, .slice none 0 0, .slice none 0 0, .slice none 0 0, .slice none 0 0, .slice none 0 0, .slice none 0 0, .slice none 0 0, .slice none 0 0] 42)) #[.bool false, .bool false, .bool false, .bool false, .bool false, .bool false, .bool false, .bool false, .bool false, .bool false, .bool false, .bool false, .bool false, .bool false, .bool false, .bool false] 43
  rw [s1] at k2
  rw [s2] at k3
  refine ⟨⟨d5.below, d5.disk, d5.labs, fun u hu => ?_⟩, Bk.new w, ((hrt.alloc _).alloc _).alloc _, k1, k2, k3, hbl, d2.below.size⟩
  rcases List.mem_cons.1 hu with rfl | hu
  · exact d5.un _ (by rw [s2]; simp)
  rcases List.mem_cons.1 hu with rfl | hu
  · exact d5.un _ (by rw [s1]; simp)
  rcases List.mem_cons.1 hu with rfl | hu
  · exact d5.un _ (by simp)
  simp at hu
  subst hu
  exact ⟨hlb, by simp; omega⟩
end Go.Proofs.Ytakocojbpdpflaa
