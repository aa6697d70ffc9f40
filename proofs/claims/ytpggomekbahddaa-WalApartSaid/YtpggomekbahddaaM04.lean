/- Disks without a fuse, plain; a disk beside other blocks; frames that Is finds. The law's example. The document's Encode: in memory of its own. A place of two pairs. file.Whole: which copies are. A disk that nobody made: what the calls of package file give. file.Mend, where one copy of two is whole. What FileCopy's run makes of its disk: plain. Logs on a disk of 52 sectors, plain: where their frames lie, and what stands there. -/
import Derived.Test.YtpggomekbahddaaFiRd
import Derived.Test.YtpggomekbahddaaFiWr
import Derived.Lib.SlBytesConst
namespace Go.Proofs.Ytpggomekbahddaa
open Go.RowKit Fi Fr
set_option linter.unusedVariables false
/-- A disk of n sectors, without a fuse. -/
structure Free (st : Dk.St) (n : Nat) : Prop where
  fu : st.fused = false
  len : st.s.length = n
theorem Free.new (n : Nat) : Free (Dk.St.new n) n := ⟨rfl, by simp [Dk.St.new]⟩
theorem Free.ready {st : Dk.St} {n : Nat} (h : Free st n) {a : Nat} (ha : a < n) : st.ready (a : Int) = 0 := by
  unfold Dk.St.ready Dk.St.down Dk.St.has
  rw [h.fu, h.len]
  simp [ha]
theorem Free.write {st : Dk.St} {n : Nat} (h : Free st n) {a : Nat} (ha : a < n) {b : List Nat} (hb : b.length = 128) :
    Free (st.write (a : Int) b) n ∧ (st.write (a : Int) b).readB (a : Int) = b ∧ ∀ c : Nat, c < n → c ≠ a → (st.write (a : Int) b).readB (c : Int) = st.readB (c : Int) := by
  have hw : st.writeE (a : Int) b.length = 0 := by unfold Dk.St.writeE; rw [if_pos (h.ready ha), if_pos hb]
  have hE : st.write (a : Int) b = Dk.St.burn ⟨Dk.upd st.s a (fun s => ⟨s.f, s.l ++ [b]⟩), st.n, st.fused, st.left⟩ := by unfold Dk.St.write; rw [if_pos hw, Int.toNat_natCast]
  have hF : Free (st.write (a : Int) b) n := by rw [hE]; exact ⟨h.fu, by simp [Dk.St.burn, Dk.upd, h.len]⟩
  refine ⟨hF, ?_, fun c hc hne => ?_⟩
  · unfold Dk.St.readB
    rw [if_pos (hF.ready ha), hE]
    have hs : a < st.s.length := by rw [h.len]; exact ha
    unfold Dk.St.sec Dk.St.burn Dk.upd
    simp only [Int.toNat_natCast, List.getElem?_modify_eq, List.getElem?_eq_getElem hs]
    simp [Dk.Sec.now]
  · unfold Dk.St.readB
    rw [if_pos (hF.ready hc), if_pos (h.ready hc), hE]
    unfold Dk.St.sec Dk.St.burn Dk.upd
    simp only [Int.toNat_natCast]
    have hne2 : ¬ a = c := by omega
    simp [hne2]
theorem new_zeros {n c : Nat} (hc : c < n) : (Dk.St.new n).readB (c : Int) = Dk.zeros := by
  unfold Dk.St.readB
  rw [if_pos ((Free.new n).ready hc)]
  unfold Dk.St.sec Dk.St.new
  simp only [Int.toNat_natCast, List.getElem?_replicate, hc]
  rfl
theorem zeros_isB (f e i k : Int) : isB Dk.zeros f e i k = false := by
  have : isF Dk.zeros = false := by kernel_rfl
  unfold isB
  rw [this]
  rfl
/-- The frame asked for. -/
theorem frame_isB (k f e i : Nat) (z : Int) {p : List Nat} (hs : okS (f : Int) (e : Int) (i : Int) = true) (hk : okK (k : Int) = true) (hp : ∀ x ∈ p, x < 256) (hn : p.length ≤ 108) (hz : z ≤ (e : Int)) :
    isB (frame k f e i p) (f : Int) z (i : Int) (k : Int) = true ∧ bd (frame k f e i p) true = p ∧ ep (frame k f e i p) true = (e : Int) := by
  obtain ⟨h1, h2, h3, h4, h5, h6⟩ := frame_is f e i k hs hk hp hn
  refine ⟨?_, ?_, ?_⟩
  · unfold isB
    rw [h1, h2, h4, h5, h6]
    simp [hz]
  · unfold bd
    rw [if_pos rfl, h3]
    exact form_payload _ _ _ _
  · unfold ep
    rw [if_pos rfl, h5]
/-- A disk made behind the world w, and blocks that are not its own. -/
structure Ds (w v : World) (d : Nat) (lab : Nat → Tag) (st : Dk.St) (U : List Nat) : Prop where
  below : Below w.heap.size w v
  disk : IsDisk v d lab st
  labs : ∀ k, lab k ≠ .no → w.heap.size ≤ k
  un : ∀ u ∈ U, lab u = .no ∧ u < v.heap.size
theorem Ds.next {w v v' : World} {d : Nat} {lab : Nat → Tag} {st : Dk.St} {U : List Nat} (h : Ds w v d lab st U) (hb : Below v.heap.size v v') : Ds w v' d lab st U :=
  ⟨h.below.trans (hb.mono h.below.size), h.disk.below hb, h.labs, fun u hu => ⟨(h.un u hu).1, Nat.lt_of_lt_of_le (h.un u hu).2 hb.size⟩⟩
theorem Ds.add {w v : World} {d : Nat} {lab : Nat → Tag} {st : Dk.St} {U : List Nat} (h : Ds w v d lab st U) (o : Obj) : Ds w (v.alloc o) d lab st (v.heap.size :: U) := by
  have hb : Below v.heap.size v (v.alloc o) := (Below.refl _ _).alloc (Nat.le_refl _) _
  have h2 := h.next hb
  refine ⟨h2.below, h2.disk, h2.labs, fun u hu => ?_⟩
  rcases List.mem_cons.1 hu with rfl | hu
  · exact ⟨h.disk.new_ (Nat.le_refl _), by simp⟩
  · exact h2.un u hu
theorem Ds.left {w v v' : World} {d : Nat} {lab : Nat → Tag} {st st' : Dk.St} {U : List Nat} (h : Ds w v d lab st U) (hl : Left lab d st' v v') : ∃ lab', Ds w v' d lab' st' U ∧ Chg lab v v' := by
  obtain ⟨lab', h1, h2, h3⟩ := hl
  exact ⟨lab', ⟨h2.below h.below h.labs h.below.size, h1, h3.above h.labs h.below.size, fun u hu => ⟨(h3 u (h.un u hu).2).trans (h.un u hu).1, Nat.lt_of_lt_of_le (h.un u hu).2 h2.size⟩⟩, h2⟩
theorem Chg.rdc {s : Nat} {lab : Nat → Tag} {w v : World} {A : Option Addr} {n : Nat} {vs : List Value} (h : Chg lab w v) (k : RdC s w A n vs) (hl : ∀ b o, A = some ⟨b, o, none⟩ → lab b = .no) : RdC s v A n vs := by
  refine ⟨k.1, fun hn => ?_⟩
  obtain ⟨b, o, rfl, hb, hc⟩ := k.2 hn
  exact ⟨b, o, rfl, Nat.lt_of_lt_of_le hb h.size, fun j x hx => (World.cell?_of_block (a := ⟨b, o + j, none⟩) (h.block b hb (hl b o rfl))).trans (hc j x hx)⟩
end Go.Proofs.Ytpggomekbahddaa
namespace Go.Proofs.Ytpggomekbahddaa
open Go.RowKit Fi Fr
set_option linter.unusedVariables false
namespace Fi
/-- The example's place. -/
def exP : Pl := ⟨1, 1, [(0, 1)]⟩
theorem exP_ok : ok exP (Sp.plots 36) = true := by decide +kernel
theorem exP_no : ok exP (Sp.plots 12) = false := by decide +kernel
theorem exP_3 : fr exP ((3 : Nat) : Int) = (7, 15, 0) := by decide +kernel
theorem exP_2 : fr exP ((2 : Nat) : Int) = (6, 14, 0) := by decide +kernel
end Fi
theorem ex_st (F : List Nat) (hF : F.length = 128) : Free (((Dk.St.new 36).write 7 F).write 15 F) 36 ∧ (((Dk.St.new 36).write 7 F).write 15 F).readB 7 = F ∧ (((Dk.St.new 36).write 7 F).write 15 F).readB 15 = F ∧ (((Dk.St.new 36).write 7 F).write 15 F).readB 6 = Dk.zeros ∧ (((Dk.St.new 36).write 7 F).write 15 F).readB 14 = Dk.zeros ∧ ((Dk.St.new 36).write 7 F).ready 15 = 0 ∧ (Dk.St.new 36).ready 7 = 0 := by
  have h0 := Free.new 36
  obtain ⟨h1, h2, h3⟩ := h0.write (a := 7) (by omega) hF
  obtain ⟨k1, k2, k3⟩ := h1.write (a := 15) (by omega) hF
  refine ⟨k1, (k3 7 (by omega) (by omega)).trans h2, k2, ((k3 6 (by omega) (by omega)).trans (h3 6 (by omega) (by omega))).trans (new_zeros (by omega)), ((k3 14 (by omega) (by omega)).trans (h3 14 (by omega) (by omega))).trans (new_zeros (by omega)), h1.ready (a := 15) (by omega), h0.ready (a := 7) (by omega)⟩
theorem low_new (n : Nat) : (Dk.St.new n).low 0 := ⟨Int.le_refl _, Int.le_refl _, Int.le_refl _, by show (0 : Int) ≤ 1048576; decide, fun s hs => by unfold Dk.St.new at hs; simp at hs; rw [hs.2]; simp⟩
theorem rdc_pair (w : World) (x y : Int) (t : TypeId) : RdC 2 (w.alloc (.cells #[.int .i64 x, .int .i64 y] t)) (some ⟨w.heap.size, 0, none⟩) 1 (pv [(x, y)]) := by
  refine ⟨rfl, fun _ => ⟨w.heap.size, 0, rfl, by simp, fun j v hv => ?_⟩⟩
  rw [Nat.zero_add, World.cell?_alloc_mark]
  simpa [pv, flat] using hv
end Go.Proofs.Ytpggomekbahddaa
namespace Go.Proofs.Ytpggomekbahddaa
open Go.RowKit Fi Fr
set_option linter.unusedVariables false
theorem Free.writeE {st : Dk.St} {n : Nat} (h : Free st n) {a : Nat} (ha : a < n) {b : List Nat} (hb : b.length = 128) : st.writeE (a : Int) b.length = 0 := by unfold Dk.St.writeE; rw [if_pos (h.ready ha), if_pos hb]
namespace Fi
/-- The law's place. -/
def P2 (id ep : Int) : Pl := ⟨id, ep, [(3, 1), (0, 2)]⟩
theorem P2_ok {id ep : Int} (h1 : 1 ≤ id) (h2 : id ≤ 2147483647) (h3 : 1 ≤ ep) (h4 : ep ≤ 2147483647) : ok (P2 id ep) (Sp.plots 36) = true := by
  refine ok_iff.2 ⟨okH_iff.2 ⟨h1, h2, h3, h4, by show 1 ≤ 2; omega, by show 2 ≤ 64; omega⟩, ?_⟩
  show okP (Sp.plots 36) (flat [(3, 1), (0, 2)]) = true
  decide +kernel
/-- Where the copies of a frame lie. -/
def px (k : Nat) : Nat := if k < 8 then 28 + k else 4 + (k - 8)
def py (k : Nat) : Nat := if k < 8 then 12 + k else 20 + (k - 8)
theorem P2_fr (id ep : Int) {k : Nat} (hk : k < 16) : fr (P2 id ep) (k : Int) = ((px k : Int), (py k : Int), 0) := by
  unfold px py
  rcases (by omega : k < 8 ∨ 8 ≤ k) with h | h
  · rw [fr_ok (p := (3, 1)) (show k < 8 * (P2 id ep).ps.length by show k < 16; omega) (by rw [show k / 8 = 0 by omega]; rfl) (by decide), if_pos h, if_pos h]
    refine Prod.ext ?_ (Prod.ext ?_ rfl) <;> simp only <;> omega
  · rw [fr_ok (p := (0, 2)) (show k < 8 * (P2 id ep).ps.length by show k < 16; omega) (by rw [show k / 8 = 1 by omega]; rfl) (by decide), if_neg (by omega), if_neg (by omega)]
    refine Prod.ext ?_ (Prod.ext ?_ rfl) <;> simp only <;> omega
theorem pxy {k : Nat} (hk : k < 16) : px k < 36 ∧ py k < 36 ∧ px k ≠ py k := by unfold px py; split <;> omega
end Fi
theorem rdc_four (w : World) (x y z u : Int) (t : TypeId) : RdC 2 (w.alloc (.cells #[.int .i64 x, .int .i64 y, .int .i64 z, .int .i64 u] t)) (some ⟨w.heap.size, 0, none⟩) 2 (pv [(x, y), (z, u)]) := by
  refine ⟨rfl, fun _ => ⟨w.heap.size, 0, rfl, by simp, fun j v hv => ?_⟩⟩
  rw [Nat.zero_add, World.cell?_alloc_mark]
  simpa [pv, flat] using hv
end Go.Proofs.Ytpggomekbahddaa
namespace Go.Proofs.Ytpggomekbahddaa
open Go.RowKit Fi Fr
set_option linter.unusedVariables false
end Go.Proofs.Ytpggomekbahddaa
namespace Go.Proofs.Ytpggomekbahddaa
open Go.RowKit Fi
set_option linter.unusedVariables false
/-- A disk that nobody made. -/
def Nod (w : World) (n : Value) : Prop := n = .pointer none ∨ ∃ g, n = .pointer (some ⟨g, 0, none⟩) ∧ Holds w g [.slice none 0 0, .map none, .int .i64 0, .bool false, .int .i64 0]
theorem Nod.below {w w' : World} {n : Value} (h : Nod w n) (hb : Below w.heap.size w w') : Nod w' n := by
  rcases h with h | ⟨g, h, hg⟩
  · exact .inl h
  · exact .inr ⟨g, h, hg.below hb⟩
set_option maxRecDepth 100000 in
theorem nod_size (n : Value) (w : World) (h : Nod w n) : Calls Try.prog 22 #[n] w fun e w' => e = .returned (.int .i64 0) ∧ w = w' := by
  rcases h with rfl | ⟨g, rfl, hg⟩
  · go_enter Try.func22, Try.ntmps22
    go_wp2
    go_ret
    exact ⟨rfl, rfl⟩
  · have c0 := hg.at_ 0 rfl
    clear hg
    go_enter Try.func22, Try.ntmps22
    go_wp2
    go_ret
    exact ⟨rfl, rfl⟩
set_option maxRecDepth 100000 in
theorem first_nil (n : Value) (P : Pl) (A : Option Addr) (c : Nat) (kind epoch i : Int) (w : World) (h : Nod w n) : Calls Try.prog 41 #[n, Fi.val P A c, .int .i64 kind, .int .i64 epoch, .int .i64 i] w fun e w' => e = .panicked (Fi.pan 4) ∧ Below w.heap.size w w' := by
  have HS := Lib.hid (fun v (hb : Below w.heap.size w v) => nod_size n v (h.below hb))
  have z2 : ∀ v, (zeroValue 76).run Try.prog v = .ok (.agg #[.int .i64 0, .int .i64 0]) v := fun v => by kernel_rfl
  have HB := Lib.hid (show Below w.heap.size w ((w.alloc (.cells #[.int .i64 P.i, .int .i64 P.e, .slice A P.ps.length c] 31)).alloc (.cells #[.int .i64 0, .int .i64 0] 76)) by repeat (first | exact Below.refl _ _ | refine Below.alloc ?_ (by simp <;> omega) _))
  unfold Fi.val
  clear h
  go_enter Try.func41, Try.ntmps41
  go_wp2_with fail
  refine (HS.out _ HB.out).mono ?_
  rintro e v ⟨rfl, rfl⟩
  go_wp2_with fail
  refine (ask_no 4 _).mono ?_
  rintro e v ⟨rfl, rfl⟩
  exact ⟨rfl, rfl, HB.out⟩
set_option maxRecDepth 100000 in
theorem both_nil (n : Value) (P : Pl) (A : Option Addr) (c : Nat) (kind i : Int) (w : World) (h : Nod w n) : Calls Try.prog 47 #[n, Fi.val P A c, .int .i64 kind, .int .i64 i] w fun e w' => e = .panicked (Fi.pan 4) ∧ Below w.heap.size w w' := by
  have HS := Lib.hid (fun v (hb : Below w.heap.size w v) => first_nil n P A c kind P.e i v (h.below hb))
  have z2 := zero_one2
  have z1 := zero_one1
  have HB := Lib.hid (show Below w.heap.size w (((w.alloc (.cells #[.int .i64 P.i, .int .i64 P.e, .slice A P.ps.length c] 31)).alloc (.cells #[.int .i64 0, .slice none 0 0, .bool false, .int .i64 0, .slice none 0 0, .int .i64 0, .slice none 0 0, .bool false, .int .i64 0, .slice none 0 0] 94)).alloc (.cells #[.int .i64 0, .slice none 0 0, .bool false, .int .i64 0, .slice none 0 0, .int .i64 0, .slice none 0 0, .bool false, .int .i64 0, .slice none 0 0] 94)) by repeat (first | exact Below.refl _ _ | refine Below.alloc ?_ (by simp <;> omega) _))
  unfold Fi.val at HS ⊢
  clear h
  go_enter Try.func47, Try.ntmps47
  go_wp2_with fail
  refine (HS.out _ HB.out).mono ?_
  rintro e v ⟨rfl, hb⟩
  exact ⟨rfl, rfl, HB.out.trans (hb.mono HB.out.size)⟩
set_option maxRecDepth 100000 in
set_option maxHeartbeats 2000000 in
theorem read_nil (n : Value) (P : Pl) (A : Option Addr) (c : Nat) (kind i : Int) (w : World) (h : Nod w n) : Calls Try.prog 35 #[n, Fi.val P A c, .int .i64 kind, .int .i64 i] w fun e w' => e = .returned (.tuple #[.slice none 0 0, .int .i64 0, .int .i64 4]) ∧ Below w.heap.size w w' := by
  have HS := Lib.hid (fun v (hb : Below w.heap.size w v) => both_nil n P A c kind i v (h.below hb))
  have z2 := zero_one2
  have z1 := zero_one1
  have HB0 := Lib.hid (show Below w.heap.size w ((w.alloc (.cells #[.int .i64 P.i, .int .i64 P.e, .slice A P.ps.length c] 31)).alloc (.cells #[.int .i64 0] 26)) by repeat (first | exact Below.refl _ _ | refine Below.alloc ?_ (by simp <;> omega) _))
  have HE0 := Lib.hid (show Holds ((w.alloc (.cells #[.int .i64 P.i, .int .i64 P.e, .slice A P.ps.length c] 31)).alloc (.cells #[.int .i64 0] 26)) (w.heap.size + 1) [.int .i64 0] by have := Holds.new (w.alloc (.cells #[.int .i64 P.i, .int .i64 P.e, .slice A P.ps.length c] 31)) #[.int .i64 0] 26; simpa using this)
  unfold Fi.val at HS ⊢
  clear h
  go_enter_defers Try.func35, Try.ntmps35
  go_wp2_with fail
  refine (HS.out _ HB0.out).mono ?_
  rintro e v2 ⟨rfl, hb⟩
  have hE := HE0.out.below hb
  have hB := HB0.out.trans (hb.mono HB0.out.size)
  show Leaves _ _ _ _ _ _ _
  refine leaves_cons (f := 45) (args := #[.pointer (some ⟨w.heap.size + 1, 0, none⟩)]) (by simp) (by simp [go_sem]) ?_
  refine (catch_read _ _ 4 _ hE).mono ?_
  rintro e u' w5 ⟨rfl, rfl, i0, rfl⟩
  have r0 := i0.at_ 0 rfl
  simp only [settle, Fi.panned]
  refine ⟨.tuple #[.slice none 0 0, .int .i64 0, .int .i64 4], ?_, ?_⟩
  · simp [results, Try.results35, go_sem, r0]
  · exact ⟨rfl, below_set hB _ _ (by show w.heap.size ≤ w.heap.size + 1; omega)⟩
set_option maxRecDepth 100000 in
set_option maxHeartbeats 2000000 in
theorem write_nil (n : Value) (P : Pl) (A : Option Addr) (c : Nat) (kind epoch i : Int) (C : Option Addr) (m cc : Nat) (w : World) (h : Nod w n) : Calls Try.prog 28 #[n, Fi.val P A c, .int .i64 kind, .int .i64 epoch, .int .i64 i, .slice C m cc] w fun e w' => e = .returned (.int .i64 4) ∧ Below w.heap.size w w' := by
  have HS := Lib.hid (fun v (hb : Below w.heap.size w v) => first_nil n P A c kind epoch i v (h.below hb))
  have z2 := zero_one2
  have z1 := zero_one1
  have HB0 := Lib.hid (show Below w.heap.size w ((w.alloc (.cells #[.int .i64 P.i, .int .i64 P.e, .slice A P.ps.length c] 31)).alloc (.cells #[.int .i64 0] 26)) by repeat (first | exact Below.refl _ _ | refine Below.alloc ?_ (by simp <;> omega) _))
  have HE0 := Lib.hid (show Holds ((w.alloc (.cells #[.int .i64 P.i, .int .i64 P.e, .slice A P.ps.length c] 31)).alloc (.cells #[.int .i64 0] 26)) (w.heap.size + 1) [.int .i64 0] by have := Holds.new (w.alloc (.cells #[.int .i64 P.i, .int .i64 P.e, .slice A P.ps.length c] 31)) #[.int .i64 0] 26; simpa using this)
  unfold Fi.val at HS ⊢
  clear h
  go_enter_defers Try.func28, Try.ntmps28
  go_wp2_with fail
  refine (HS.out _ HB0.out).mono ?_
  rintro e v2 ⟨rfl, hb⟩
  have hE := HE0.out.below hb
  have hB := HB0.out.trans (hb.mono HB0.out.size)
  show Leaves _ _ _ _ _ _ _
  refine leaves_cons (f := 40) (args := #[.pointer (some ⟨w.heap.size + 1, 0, none⟩)]) (by simp) (by simp [go_sem]) ?_
  refine (catch_write _ _ 4 _ hE).mono ?_
  rintro e u' w5 ⟨rfl, rfl, i0, rfl⟩
  have r0 := i0.at_ 0 rfl
  simp only [settle, Fi.panned]
  refine ⟨.int .i64 4, ?_, ?_⟩
  · simp [results, Try.results28, go_sem, r0]
  · exact ⟨rfl, below_set hB _ _ (by show w.heap.size ≤ w.heap.size + 1; omega)⟩
set_option maxRecDepth 100000 in
set_option maxHeartbeats 2000000 in
theorem hdr {w : World} {b : Nat} {cs : List Value} (k : Holds w b cs) : Holds w.drew b cs := k
end Go.Proofs.Ytpggomekbahddaa
namespace Go.Proofs.Ytpggomekbahddaa
open Go.RowKit Fi Fr
set_option linter.unusedVariables false
/-- A disk within a call: from w on; blocks of the call's own. -/
structure La (lab : Nat → Tag) (d : Nat) (st : Dk.St) (w : World) (lab' : Nat → Tag) (v : World) (U : List Nat) : Prop where
  disk : IsDisk v d lab' st
  chg : Chg lab w v
  lab : Lab w lab lab'
  un : ∀ u ∈ U, lab' u = .no ∧ w.heap.size ≤ u ∧ u < v.heap.size
section
variable {lab lab' : Nat → Tag} {d : Nat} {st st' : Dk.St} {w v v' : World} {U : List Nat}
theorem La.start (h : IsDisk w d lab st) (hb : Below w.heap.size w v) (hu : ∀ u ∈ U, w.heap.size ≤ u ∧ u < v.heap.size) : La lab d st w lab v U :=
  ⟨h.below hb, (Chg.of_below hb), Lab.refl _ _, fun u hm => ⟨h.new_ (hu u hm).1, (hu u hm).1, (hu u hm).2⟩⟩
theorem La.next (h : La lab d st w lab' v U) (hb : Below v.heap.size v v') : La lab d st w lab' v' U :=
  ⟨h.disk.below hb, h.chg.trans h.lab (Chg.of_below hb), h.lab, fun u hm => ⟨(h.un u hm).1, (h.un u hm).2.1, Nat.lt_of_lt_of_le (h.un u hm).2.2 hb.size⟩⟩
theorem La.set (h : La lab d st w lab' v U) {u : Nat} (hu : u ∈ U) (j : Nat) (x : Value) : La lab d st w lab' (v.setCell ⟨u, j, none⟩ x) U := by
  obtain ⟨h1, h2, h3⟩ := h.un u hu
  refine ⟨h.disk.keep (by simp [World.setCell]) fun k hk => Below.heap_setCell _ _ _ _ (fun e => hk (by rw [show k = u from e]; exact h1)), ⟨h.chg.os, h.chg.tape, h.chg.output, by simpa [World.setCell] using h.chg.size, fun k hk e => (Below.heap_setCell _ _ _ _ (fun e2 => by have e2 : k = u := e2; omega)).trans (h.chg.block k hk e)⟩, h.lab, fun a ha => ⟨(h.un a ha).1, (h.un a ha).2.1, by simpa [World.setCell] using (h.un a ha).2.2⟩⟩
theorem La.left (h : La lab d st w lab' v U) (hl : Left lab' d st' v v') : ∃ lab2, La lab d st' w lab2 v' U ∧ Chg lab' v v' := by
  obtain ⟨lab2, h1, h2, h3⟩ := hl
  exact ⟨lab2, ⟨h1, h.chg.trans h.lab h2, h.lab.trans h3 h.chg.size, fun u hm => ⟨(h3 u (h.un u hm).2.2).trans (h.un u hm).1, (h.un u hm).2.1, Nat.lt_of_lt_of_le (h.un u hm).2.2 h2.size⟩⟩, h2⟩
theorem La.out (h : La lab d st w lab' v U) : Left lab d st w v := ⟨lab', h.disk, h.chg, h.lab⟩
end
end Go.Proofs.Ytpggomekbahddaa
namespace Go.Proofs.Ytpggomekbahddaa
open Go.RowKit Fi Fr
set_option linter.unusedVariables false
theorem turn_other {l : List Nat} {p m : Nat} (hp : p < l.length) (hm : m ≠ 0) : Dk.turn l p m ≠ l := by
  intro e
  have h1 : (Dk.turn l p m)[p]? = l[p]? := by rw [e]
  unfold Dk.turn at h1
  rw [List.getElem?_modify_eq, List.getElem?_eq_getElem hp] at h1
  have h3 : l[p] ^^^ m = l[p] := by injection h1
  have h2 : l[p] ^^^ m ^^^ l[p] = 0 := by rw [h3, Nat.xor_self]
  rw [Nat.xor_comm, ← Nat.xor_assoc, Nat.xor_self, Nat.zero_xor] at h2
  exact hm h2
theorem Free.sec {st : Dk.St} {n : Nat} (h : Free st n) {c : Nat} (hc : c < n) : ∃ s, st.s[c]? = some s ∧ st.readB (c : Int) = s.now := by
  have hs : c < st.s.length := by rw [h.len]; exact hc
  refine ⟨st.s[c], List.getElem?_eq_getElem hs, ?_⟩
  unfold Dk.St.readB
  rw [if_pos (h.ready hc)]
  unfold Dk.St.sec
  rw [Int.toNat_natCast, List.getElem?_eq_getElem hs]
  rfl
theorem Free.read {st : Dk.St} {n : Nat} (h : Free st n) {c : Nat} (hc : c < n) {s : Dk.Sec} (hs : st.s[c]? = some s) : st.readB (c : Int) = s.now := by
  obtain ⟨t, h1, h2⟩ := h.sec hc
  rw [hs] at h1
  injection h1 with h1
  rw [h2, h1]
theorem Free.flush {st : Dk.St} {n : Nat} (h : Free st n) : Free st.flush n ∧ st.flushE = 0 ∧ ∀ c : Nat, c < n → st.flush.readB (c : Int) = st.readB (c : Int) ∧ ∃ f, st.flush.s[c]? = some ⟨f, []⟩ := by
  have hE : st.flushE = 0 := by unfold Dk.St.flushE Dk.St.down; rw [h.fu]; rfl
  have hS : st.flush = Dk.St.burn ⟨Dk.fixed st.s, st.n, st.fused, st.left⟩ := by unfold Dk.St.flush; rw [if_pos hE]
  have hF : Free st.flush n := by rw [hS]; exact ⟨h.fu, by simp [Dk.St.burn, Dk.fixed, h.len]⟩
  refine ⟨hF, hE, fun c hc => ?_⟩
  obtain ⟨s, h1, h2⟩ := h.sec hc
  have h3 : st.flush.s[c]? = some ⟨s.now, []⟩ := by rw [hS]; simp [Dk.St.burn, Dk.fixed, h1]
  exact ⟨by rw [hF.read hc h3, h2]; rfl, _, h3⟩
theorem Free.rot {st : Dk.St} {n : Nat} (h : Free st n) {a : Nat} (ha : a < n) {f : List Nat} (hl : st.s[a]? = some ⟨f, []⟩) {p m : Nat} (hp : p < 128) :
    st.rotE (a : Int) (p : Int) = 0 ∧ Free (st.rot (a : Int) (p : Int) m) n ∧ (st.rot (a : Int) (p : Int) m).readB (a : Int) = Dk.turn (st.readB (a : Int)) p m ∧ ∀ c : Nat, c < n → c ≠ a → (st.rot (a : Int) (p : Int) m).readB (c : Int) = st.readB (c : Int) := by
  have hE : st.rotE (a : Int) (p : Int) = 0 := by
    unfold Dk.St.rotE Dk.St.has
    rw [if_pos ⟨by rw [h.len]; simp [ha], by omega, by omega⟩]
  have hS : st.rot (a : Int) (p : Int) m = ⟨Dk.upd st.s a (fun s => ⟨Dk.turn s.f p m, s.l⟩), st.n, st.fused, st.left⟩ := by unfold Dk.St.rot; rw [if_pos hE, Int.toNat_natCast, Int.toNat_natCast]
  have hF : Free (st.rot (a : Int) (p : Int) m) n := by rw [hS]; exact ⟨h.fu, by simp [Dk.upd, h.len]⟩
  refine ⟨hE, hF, ?_, fun c hc hne => ?_⟩
  · have h3 : (st.rot (a : Int) (p : Int) m).s[a]? = some ⟨Dk.turn f p m, []⟩ := by rw [hS]; simp [Dk.upd, hl]
    rw [hF.read ha h3, h.read ha hl]
    rfl
  · obtain ⟨s, h1, h2⟩ := h.sec hc
    have hne2 : ¬ a = c := by omega
    have h3 : (st.rot (a : Int) (p : Int) m).s[c]? = some s := by rw [hS]; simp [Dk.upd, hne2, h1]
    rw [hF.read hc h3, h2]
/-- The states of FileCopy's disk, where the copy at a is spoilt and that at o is not. -/
structure Cpd (X Y a o : Nat) (F T : List Nat) (s1 s2 s3 s4 : Dk.St) (p m : Nat) : Prop where
  w : ((Dk.St.new 36).write (X : Int) F).write (Y : Int) F = s1
  f : s1.flush = s2 ∧ s1.flushE = 0
  r : s2.rotE (a : Int) (p : Int) = 0 ∧ s2.rot (a : Int) (p : Int) m = s3
  fr : Free s3 36
  at_ : s3.readB (a : Int) = T
  ot : s3.readB (o : Int) = F
  m : s3.write (a : Int) F = s4
  fr4 : Free s4 36
  all : s4.readB (a : Int) = F ∧ s4.readB (o : Int) = F
  low : s1.low 2 ∧ s2.low 3 ∧ s3.low 4
  ne : T ≠ F
  rx : (Dk.St.new 36).ready (X : Int) = 0 ∧ ((Dk.St.new 36).write (X : Int) F).ready (Y : Int) = 0
theorem cpd {X Y a o : Nat} {F : List Nat} {p m : Nat} (hX : X < 36) (hY : Y < 36) (hne : X ≠ Y) (hao : a = X ∧ o = Y ∨ a = Y ∧ o = X) (hF : F.length = 128) (hp : p < 128) (hm : m ≠ 0) : ∃ s1 s2 s3 s4, Cpd X Y a o F (Dk.turn F p m) s1 s2 s3 s4 p m := by
  have h0 := Free.new 36
  obtain ⟨h1, h2, h3⟩ := h0.write hX hF
  obtain ⟨k1, k2, k3⟩ := h1.write hY hF
  obtain ⟨l1, l2, l3⟩ := k1.flush
  have ha : a < 36 := by omega
  have ho : o < 36 := by omega
  have hoa : o ≠ a := by omega
  obtain ⟨q1, f, q2⟩ := l3 a ha
  obtain ⟨m1, m2, m3, m4⟩ := l1.rot ha q2 (m := m) hp
  obtain ⟨n1, n2, n3⟩ := m2.write ha hF
  have kX : (((Dk.St.new 36).write (X : Int) F).write (Y : Int) F).readB (X : Int) = F := (k3 X hX hne).trans h2
  have kA : (((Dk.St.new 36).write (X : Int) F).write (Y : Int) F).readB (a : Int) = F := by rcases hao with ⟨rfl, _⟩ | ⟨rfl, _⟩; exact kX; exact k2
  have kO : (((Dk.St.new 36).write (X : Int) F).write (Y : Int) F).readB (o : Int) = F := by rcases hao with ⟨_, rfl⟩ | ⟨_, rfl⟩; exact k2; exact kX
  have eO := (m4 o ho hoa).trans (((l3 o ho).1).trans kO)
  refine ⟨_, _, _, _, ⟨rfl, ⟨rfl, l2⟩, ⟨m1, rfl⟩, m2, by rw [m3, q1, kA], eO, rfl, n1, ⟨n2, (n3 o ho hoa).trans eO⟩, ⟨low_write (low_write (low_new 36) _ _) _ _, low_flush (low_write (low_write (low_new 36) _ _) _ _), low_rot (low_flush (low_write (low_write (low_new 36) _ _) _ _)) _ _ _⟩, turn_other (by omega) hm, h0.ready hX, h1.ready hY⟩⟩
end Go.Proofs.Ytpggomekbahddaa
namespace Go.Proofs.Ytpggomekbahddaa
open Go.RowKit Fi Fr
set_option linter.unusedVariables false
namespace Wl
def pairs (n : Nat) : List (Int × Int) := [(1, 0), (3, 2), (5, 4)].take n
def pl (n : Nat) (e : Int) : Fi.Pl := ⟨7, e, pairs n⟩
theorem pairs_len {n : Nat} (h : n ≤ 3) : (pairs n).length = n := by unfold pairs; rw [List.length_take]; simp; omega
def sx (k : Nat) : Nat := 4 + 8 * (2 * (k / 8) + 1) + k % 8
def sy (k : Nat) : Nat := 4 + 8 * (2 * (k / 8)) + k % 8
theorem sx_lt {k : Nat} (h : k < 24) : sx k < 52 ∧ sy k < 52 ∧ sx k ≠ sy k := by unfold sx sy; omega
theorem sx_far {j k : Nat} (h : j ≠ k) : sx j ≠ sx k ∧ sx j ≠ sy k ∧ sy j ≠ sx k ∧ sy j ≠ sy k := by unfold sx sy; omega
theorem pairs_at {n k : Nat} (hn : n ≤ 3) (h : k < n) : (pairs n)[k]? = some (2 * (k : Int) + 1, 2 * (k : Int)) := by
  unfold pairs
  rw [List.getElem?_take, if_pos h]
  have : k = 0 ∨ k = 1 ∨ k = 2 := by omega
  rcases this with rfl | rfl | rfl <;> rfl
theorem fr_at {n k : Nat} (e : Int) (hn : n ≤ 3) (h : k < 8 * n) : fr (pl n e) (k : Int) = ((sx k : Int), (sy k : Int), 0) := by
  have hp := pairs_at hn (show k / 8 < n by omega)
  have hl : k < 8 * (pl n e).ps.length := by show k < 8 * (pairs n).length; rw [pairs_len hn]; exact h
  rw [fr_ok (P := pl n e) hl hp (by omega)]
  unfold sx sy
  have e1 : 4 + 8 * (2 * ((k / 8 : Nat) : Int) + 1) + (k : Int) % 8 = ((4 + 8 * (2 * (k / 8) + 1) + k % 8 : Nat) : Int) := by omega
  have e2 : 4 + 8 * (2 * ((k / 8 : Nat) : Int)) + (k : Int) % 8 = ((4 + 8 * (2 * (k / 8)) + k % 8 : Nat) : Int) := by omega
  show (4 + 8 * (2 * ((k / 8 : Nat) : Int) + 1) + (k : Int) % 8, 4 + 8 * (2 * ((k / 8 : Nat) : Int)) + (k : Int) % 8, 0) = _
  rw [e1, e2]
theorem ok_at {n : Nat} {e : Int} (h1 : 1 ≤ n) (hn : n ≤ 3) (he : 1 ≤ e ∧ e ≤ 2147483647) : ok (pl n e) (Sp.plots 52) = true := by
  rw [ok_iff]
  refine ⟨okH_iff.2 ⟨by show (1 : Int) ≤ 7; omega, by show (7 : Int) ≤ 2147483647; omega, he.1, he.2, by show 1 ≤ (pairs n).length; rw [pairs_len hn]; exact h1, by show (pairs n).length ≤ 64; rw [pairs_len hn]; omega⟩, ?_⟩
  have : n = 1 ∨ n = 2 ∨ n = 3 := by omega
  rcases this with rfl | rfl | rfl
  · show okP (Sp.plots 52) (flat (pairs 1)) = true; decide +kernel
  · show okP (Sp.plots 52) (flat (pairs 2)) = true; decide +kernel
  · show okP (Sp.plots 52) (flat (pairs 3)) = true; decide +kernel
/-- A disk with a file of n pairs; its first frames bear the payloads Ps, in epoch E; the others were never written. -/
structure Lg (st : Dk.St) (n kind E : Nat) (Ps : List (List Nat)) : Prop where
  free : Free st 52
  n3 : n ≤ 3
  le : Ps.length ≤ 8 * n
  each : ∀ (k : Nat) (p : List Nat), Ps[k]? = some p → st.readB (sx k : Int) = frame kind 7 E k p ∧ st.readB (sy k : Int) = frame kind 7 E k p ∧ p.length ≤ 108 ∧ ∀ x ∈ p, x < 256
  rest : ∀ k : Nat, Ps.length ≤ k → k < 8 * n → st.readB (sx k : Int) = Dk.zeros ∧ st.readB (sy k : Int) = Dk.zeros
theorem Lg.new {n kind E : Nat} (hn : n ≤ 3) : Lg (Dk.St.new 52) n kind E [] :=
  ⟨Free.new 52, hn, Nat.zero_le _, fun k p h => by simp at h, fun k _ hk => by
    obtain ⟨h1, h2, _⟩ := sx_lt (show k < 24 by omega)
    exact ⟨new_zeros h1, new_zeros h2⟩⟩
theorem Lg.add {st : Dk.St} {n kind E : Nat} {Ps : List (List Nat)} (h : Lg st n kind E Ps) (hr : Ps.length < 8 * n) {p : List Nat} (hl : p.length ≤ 108) (hp : ∀ x ∈ p, x < 256) :
    Lg ((st.write (sx Ps.length : Int) (frame kind 7 E Ps.length p)).write (sy Ps.length : Int) (frame kind 7 E Ps.length p)) n kind E (Ps ++ [p]) := by
  have hn := h.n3
  obtain ⟨x1, x2, x3⟩ := sx_lt (show Ps.length < 24 by omega)
  have hF : (frame kind 7 E Ps.length p).length = 128 := frame_len (by omega)
  obtain ⟨f1, a1, o1⟩ := h.free.write x1 hF
  obtain ⟨f2, a2, o2⟩ := f1.write x2 hF
  have hk : ∀ k : Nat, k < 8 * n → k ≠ Ps.length → ((st.write (sx Ps.length : Int) (frame kind 7 E Ps.length p)).write (sy Ps.length : Int) (frame kind 7 E Ps.length p)).readB (sx k : Int) = st.readB (sx k : Int) ∧ ((st.write (sx Ps.length : Int) (frame kind 7 E Ps.length p)).write (sy Ps.length : Int) (frame kind 7 E Ps.length p)).readB (sy k : Int) = st.readB (sy k : Int) := fun k hk hne => by
    obtain ⟨y1, y2, y3⟩ := sx_lt (show k < 24 by omega)
    obtain ⟨n1, n2, n3, n4⟩ := sx_far hne
    exact ⟨(o2 _ y1 n2).trans (o1 _ y1 n1), (o2 _ y2 n4).trans (o1 _ y2 n3)⟩
  refine ⟨f2, hn, by rw [List.length_append]; simp; omega, fun k q hq => ?_, fun k hk1 hk2 => ?_⟩
  · by_cases e : k = Ps.length
    · subst e
      rw [List.getElem?_append_right (Nat.le_refl _), Nat.sub_self] at hq
      injection hq with hq
      subst hq
      exact ⟨(o2 _ x1 x3).trans a1, a2, hl, hp⟩
    · have hlt : k < Ps.length := by
        have := (List.getElem?_eq_some_iff.1 hq).1
        rw [List.length_append] at this
        simp at this
        omega
      rw [List.getElem?_append_left hlt] at hq
      obtain ⟨e1, e2⟩ := hk k (by omega) e
      rw [e1, e2]
      exact h.each k q hq
  · rw [List.length_append] at hk1
    simp at hk1
    obtain ⟨e1, e2⟩ := hk k hk2 (by omega)
    rw [e1, e2]
    exact h.rest k (by omega) hk2
theorem Lg.flush {st : Dk.St} {n kind E : Nat} {Ps : List (List Nat)} (h : Lg st n kind E Ps) : Lg st.flush n kind E Ps ∧ st.flushE = 0 := by
  obtain ⟨hf, he, hr⟩ := h.free.flush
  have hn := h.n3
  have hl := h.le
  refine ⟨⟨hf, hn, hl, fun k p hk => ?_, fun k h1 h2 => ?_⟩, he⟩
  · have hlt := (List.getElem?_eq_some_iff.1 hk).1
    obtain ⟨y1, y2, _⟩ := sx_lt (show k < 24 by omega)
    rw [(hr _ y1).1, (hr _ y2).1]
    exact h.each k p hk
  · obtain ⟨y1, y2, _⟩ := sx_lt (show k < 24 by omega)
    rw [(hr _ y1).1, (hr _ y2).1]
    exact h.rest k h1 h2
/-- A sector that is none of the file's is written. -/
theorem Lg.other {st : Dk.St} {n kind E a : Nat} {Ps : List (List Nat)} {b : List Nat} (h : Lg st n kind E Ps) (ha : a < 52) (hb : b.length = 128) (hne : ∀ k : Nat, k < 8 * n → a ≠ sx k ∧ a ≠ sy k) : Lg (st.write (a : Int) b) n kind E Ps := by
  obtain ⟨f1, a1, o1⟩ := h.free.write ha hb
  have hn := h.n3
  have hl := h.le
  refine ⟨f1, hn, hl, fun k p hk => ?_, fun k h1 h2 => ?_⟩
  · have hlt := (List.getElem?_eq_some_iff.1 hk).1
    obtain ⟨y1, y2, _⟩ := sx_lt (show k < 24 by omega)
    obtain ⟨n1, n2⟩ := hne k (by omega)
    rw [o1 _ y1 n1.symm, o1 _ y2 n2.symm]
    exact h.each k p hk
  · obtain ⟨y1, y2, _⟩ := sx_lt (show k < 24 by omega)
    obtain ⟨n1, n2⟩ := hne k h2
    rw [o1 _ y1 n1.symm, o1 _ y2 n2.symm]
    exact h.rest k h1 h2
end Wl
end Go.Proofs.Ytpggomekbahddaa
