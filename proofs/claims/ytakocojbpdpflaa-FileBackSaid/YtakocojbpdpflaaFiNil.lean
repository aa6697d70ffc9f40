/- A disk that nobody made: what the calls of package file give. -/
import Derived.Test.YtakocojbpdpflaaFiAw
namespace Go.Proofs.Ytakocojbpdpflaa
open Go.RowKit Fi
set_option linter.unusedVariables false
/-- A disk that nobody made. -/
def Nod (w : World) (n : Value) : Prop := n = .pointer none ∨ ∃ g, n = .pointer (some ⟨g, 0, none⟩) ∧ Holds w g [.slice none 0 0, .map none, .int .i64 0, .bool false, .int .i64 0]
theorem Nod.below {w w' : World} {n : Value} (h : Nod w n) (hb : Below w.heap.size w w') : Nod w' n := by
  rcases h with h | ⟨g, h, hg⟩
  · exact .inl h
  · exact .inr ⟨g, h, hg.below hb⟩
set_option maxRecDepth 100000 in
theorem nod_size (n : Value) (w : World) (h : Nod w n) : Calls Try.prog 45 #[n] w fun e w' => e = .returned (.int .i64 0) ∧ w = w' := by
  rcases h with rfl | ⟨g, rfl, hg⟩
  · go_enter Try.func45, Try.ntmps45
    go_wp2
    go_ret
    exact ⟨rfl, rfl⟩
  · have c0 := hg.at_ 0 rfl
    clear hg
    go_enter Try.func45, Try.ntmps45
    go_wp2
    go_ret
    exact ⟨rfl, rfl⟩
set_option maxRecDepth 100000 in
theorem first_nil (n : Value) (P : Pl) (A : Option Addr) (c : Nat) (kind epoch i : Int) (w : World) (h : Nod w n) : Calls Try.prog 36 #[n, Fi.val P A c, .int .i64 kind, .int .i64 epoch, .int .i64 i] w fun e w' => e = .panicked (Fi.pan 4) ∧ Below w.heap.size w w' := by
  have HS := Lib.hid (fun v (hb : Below w.heap.size w v) => nod_size n v (h.below hb))
  have z2 : ∀ v, (zeroValue 77).run Try.prog v = .ok (.agg #[.int .i64 0, .int .i64 0]) v := fun v => by kernel_rfl
  have HB := Lib.hid (show Below w.heap.size w ((w.alloc (.cells #[.int .i64 P.i, .int .i64 P.e, .slice A P.ps.length c] 24)).alloc (.cells #[.int .i64 0, .int .i64 0] 77)) by repeat (first | exact Below.refl _ _ | refine Below.alloc ?_ (by simp <;> omega) _))
  unfold Fi.val
  clear h
  go_enter Try.func36, Try.ntmps36
  go_wp2_with fail
  refine (HS.out _ HB.out).mono ?_
  rintro e v ⟨rfl, rfl⟩
  go_wp2_with fail
  refine (ask_no 4 _).mono ?_
  rintro e v ⟨rfl, rfl⟩
  exact ⟨rfl, rfl, HB.out⟩
set_option maxRecDepth 100000 in
theorem both_nil (n : Value) (P : Pl) (A : Option Addr) (c : Nat) (kind i : Int) (w : World) (h : Nod w n) : Calls Try.prog 41 #[n, Fi.val P A c, .int .i64 kind, .int .i64 i] w fun e w' => e = .panicked (Fi.pan 4) ∧ Below w.heap.size w w' := by
  have HS := Lib.hid (fun v (hb : Below w.heap.size w v) => first_nil n P A c kind P.e i v (h.below hb))
  have z2 := zero_one2
  have z1 := zero_one1
  have HB := Lib.hid (show Below w.heap.size w (((w.alloc (.cells #[.int .i64 P.i, .int .i64 P.e, .slice A P.ps.length c] 24)).alloc (.cells #[.int .i64 0, .slice none 0 0, .bool false, .int .i64 0, .slice none 0 0, .int .i64 0, .slice none 0 0, .bool false, .int .i64 0, .slice none 0 0] 85)).alloc (.cells #[.int .i64 0, .slice none 0 0, .bool false, .int .i64 0, .slice none 0 0, .int .i64 0, .slice none 0 0, .bool false, .int .i64 0, .slice none 0 0] 85)) by repeat (first | exact Below.refl _ _ | refine Below.alloc ?_ (by simp <;> omega) _))
  unfold Fi.val at HS ⊢
  clear h
  go_enter Try.func41, Try.ntmps41
  go_wp2_with fail
  refine (HS.out _ HB.out).mono ?_
  rintro e v ⟨rfl, hb⟩
  exact ⟨rfl, rfl, HB.out.trans (hb.mono HB.out.size)⟩
set_option maxRecDepth 100000 in
set_option maxHeartbeats 2000000 in
theorem read_nil (n : Value) (P : Pl) (A : Option Addr) (c : Nat) (kind i : Int) (w : World) (h : Nod w n) : Calls Try.prog 20 #[n, Fi.val P A c, .int .i64 kind, .int .i64 i] w fun e w' => e = .returned (.tuple #[.slice none 0 0, .int .i64 0, .int .i64 4]) ∧ Below w.heap.size w w' := by
  have HS := Lib.hid (fun v (hb : Below w.heap.size w v) => both_nil n P A c kind i v (h.below hb))
  have z2 := zero_one2
  have z1 := zero_one1
  have HB0 := Lib.hid (show Below w.heap.size w ((w.alloc (.cells #[.int .i64 P.i, .int .i64 P.e, .slice A P.ps.length c] 24)).alloc (.cells #[.int .i64 0] 26)) by repeat (first | exact Below.refl _ _ | refine Below.alloc ?_ (by simp <;> omega) _))
  have HE0 := Lib.hid (show Holds ((w.alloc (.cells #[.int .i64 P.i, .int .i64 P.e, .slice A P.ps.length c] 24)).alloc (.cells #[.int .i64 0] 26)) (w.heap.size + 1) [.int .i64 0] by have := Holds.new (w.alloc (.cells #[.int .i64 P.i, .int .i64 P.e, .slice A P.ps.length c] 24)) #[.int .i64 0] 26; simpa using this)
  unfold Fi.val at HS ⊢
  clear h
  go_enter_defers Try.func20, Try.ntmps20
  go_wp2_with fail
  refine (HS.out _ HB0.out).mono ?_
  rintro e v2 ⟨rfl, hb⟩
  have hE := HE0.out.below hb
  have hB := HB0.out.trans (hb.mono HB0.out.size)
  show Leaves _ _ _ _ _ _ _
  refine leaves_cons (f := 39) (args := #[.pointer (some ⟨w.heap.size + 1, 0, none⟩)]) (by simp) (by simp [go_sem]) ?_
  refine (catch_read _ _ 4 _ hE).mono ?_
  rintro e u' w5 ⟨rfl, rfl, i0, rfl⟩
  have r0 := i0.at_ 0 rfl
  simp only [settle, Fi.panned]
  refine ⟨.tuple #[.slice none 0 0, .int .i64 0, .int .i64 4], ?_, ?_⟩
  · simp [results, Try.results20, go_sem, r0]
  · exact ⟨rfl, below_set hB _ _ (by show w.heap.size ≤ w.heap.size + 1; omega)⟩
set_option maxRecDepth 100000 in
set_option maxHeartbeats 2000000 in
theorem whole_nil (n : Value) (P : Pl) (A : Option Addr) (c : Nat) (kind i : Int) (w : World) (h : Nod w n) : Calls Try.prog 25 #[n, Fi.val P A c, .int .i64 kind, .int .i64 i] w fun e w' => e = .returned (.tuple #[.bool false, .bool false, .int .i64 4]) ∧ Below w.heap.size w w' := by
  have HS := Lib.hid (fun v (hb : Below w.heap.size w v) => both_nil n P A c kind i v (h.below hb))
  have z2 := zero_one2
  have z1 := zero_one1
  have HB0 := Lib.hid (show Below w.heap.size w ((w.alloc (.cells #[.int .i64 P.i, .int .i64 P.e, .slice A P.ps.length c] 24)).alloc (.cells #[.int .i64 0] 26)) by repeat (first | exact Below.refl _ _ | refine Below.alloc ?_ (by simp <;> omega) _))
  have HE0 := Lib.hid (show Holds ((w.alloc (.cells #[.int .i64 P.i, .int .i64 P.e, .slice A P.ps.length c] 24)).alloc (.cells #[.int .i64 0] 26)) (w.heap.size + 1) [.int .i64 0] by have := Holds.new (w.alloc (.cells #[.int .i64 P.i, .int .i64 P.e, .slice A P.ps.length c] 24)) #[.int .i64 0] 26; simpa using this)
  unfold Fi.val at HS ⊢
  clear h
  go_enter_defers Try.func25, Try.ntmps25
  go_wp2_with fail
  refine (HS.out _ HB0.out).mono ?_
  rintro e v2 ⟨rfl, hb⟩
  have hE := HE0.out.below hb
  have hB := HB0.out.trans (hb.mono HB0.out.size)
  show Leaves _ _ _ _ _ _ _
  refine leaves_cons (f := 48) (args := #[.pointer (some ⟨w.heap.size + 1, 0, none⟩)]) (by simp) (by simp [go_sem]) ?_
  refine (catch_whole _ _ 4 _ hE).mono ?_
  rintro e u' w5 ⟨rfl, rfl, i0, rfl⟩
  have r0 := i0.at_ 0 rfl
  simp only [settle, Fi.panned]
  refine ⟨.tuple #[.bool false, .bool false, .int .i64 4], ?_, ?_⟩
  · simp [results, Try.results25, go_sem, r0]
  · exact ⟨rfl, below_set hB _ _ (by show w.heap.size ≤ w.heap.size + 1; omega)⟩
set_option maxRecDepth 100000 in
set_option maxHeartbeats 2000000 in
theorem write_nil (n : Value) (P : Pl) (A : Option Addr) (c : Nat) (kind epoch i : Int) (C : Option Addr) (m cc : Nat) (w : World) (h : Nod w n) : Calls Try.prog 19 #[n, Fi.val P A c, .int .i64 kind, .int .i64 epoch, .int .i64 i, .slice C m cc] w fun e w' => e = .returned (.int .i64 4) ∧ Below w.heap.size w w' := by
  have HS := Lib.hid (fun v (hb : Below w.heap.size w v) => first_nil n P A c kind epoch i v (h.below hb))
  have z2 := zero_one2
  have z1 := zero_one1
  have HB0 := Lib.hid (show Below w.heap.size w ((w.alloc (.cells #[.int .i64 P.i, .int .i64 P.e, .slice A P.ps.length c] 24)).alloc (.cells #[.int .i64 0] 26)) by repeat (first | exact Below.refl _ _ | refine Below.alloc ?_ (by simp <;> omega) _))
  have HE0 := Lib.hid (show Holds ((w.alloc (.cells #[.int .i64 P.i, .int .i64 P.e, .slice A P.ps.length c] 24)).alloc (.cells #[.int .i64 0] 26)) (w.heap.size + 1) [.int .i64 0] by have := Holds.new (w.alloc (.cells #[.int .i64 P.i, .int .i64 P.e, .slice A P.ps.length c] 24)) #[.int .i64 0] 26; simpa using this)
  unfold Fi.val at HS ⊢
  clear h
  go_enter_defers Try.func19, Try.ntmps19
  go_wp2_with fail
  refine (HS.out _ HB0.out).mono ?_
  rintro e v2 ⟨rfl, hb⟩
  have hE := HE0.out.below hb
  have hB := HB0.out.trans (hb.mono HB0.out.size)
  show Leaves _ _ _ _ _ _ _
  refine leaves_cons (f := 35) (args := #[.pointer (some ⟨w.heap.size + 1, 0, none⟩)]) (by simp) (by simp [go_sem]) ?_
  refine (catch_write _ _ 4 _ hE).mono ?_
  rintro e u' w5 ⟨rfl, rfl, i0, rfl⟩
  have r0 := i0.at_ 0 rfl
  simp only [settle, Fi.panned]
  refine ⟨.int .i64 4, ?_, ?_⟩
  · simp [results, Try.results19, go_sem, r0]
  · exact ⟨rfl, below_set hB _ _ (by show w.heap.size ≤ w.heap.size + 1; omega)⟩
set_option maxRecDepth 100000 in
set_option maxHeartbeats 2000000 in
theorem hdr {w : World} {b : Nat} {cs : List Value} (k : Holds w b cs) : Holds w.drew b cs := k
set_option maxRecDepth 100000 in
set_option maxHeartbeats 2000000 in
theorem catch_mend (b c : Nat) (x y : Value) (k : Int) (w : World) (hb : Holds w b [x]) (hc : Holds w c [y]) (hne : b ≠ c) :
    CallsD Try.prog 49 #[.pointer (some ⟨b, 0, none⟩), .pointer (some ⟨c, 0, none⟩)] (.panicking (Fi.pan k)) w fun e u' w' =>
      e = .returned (.tuple #[]) ∧ u' = Fi.panned k ∧ Holds w' b [.int .i64 0] ∧ Holds w' c [.int .i64 k] ∧ ∀ B, B ≤ b → B ≤ c → Below B w w' := by
  have hta : ∀ (v : Value) (w : World), (Instr.typeAssert (.iface 26 v) 20 26 false).run Try.prog w = .ok v w := fun v w => by kernel_rfl
  have hx : w.cell? ⟨b, 0, none⟩ = some x := hb.at_ 0 rfl
  have zx : w.frozen? ⟨b, 0, none⟩ = false := hb.2.2 0
  have hy : w.cell? ⟨c, 0, none⟩ = some y := hc.at_ 0 rfl
  have zy : w.frozen? ⟨c, 0, none⟩ = false := hc.2.2 0
  have fin : Holds ((w.setCell ⟨b, 0, none⟩ (.int .i64 0)).setCell ⟨c, 0, none⟩ (.int .i64 k)) b [.int .i64 0] ∧ Holds ((w.setCell ⟨b, 0, none⟩ (.int .i64 0)).setCell ⟨c, 0, none⟩ (.int .i64 k)) c [.int .i64 k] ∧ ∀ B, B ≤ b → B ≤ c → Below B w ((w.setCell ⟨b, 0, none⟩ (.int .i64 0)).setCell ⟨c, 0, none⟩ (.int .i64 k)) := by
    refine ⟨Holds.other (hb.set 0 (.int .i64 0) (by simp)) hne, Holds.set (hc.other hne.symm) 0 (.int .i64 k) (by simp), fun B h1 h2 => ?_⟩
    exact below_set (below_set (Below.refl B w) ⟨b, 0, none⟩ (.int .i64 0) h1) ⟨c, 0, none⟩ (.int .i64 k) h2
  have Fin := Lib.hid fin
  clear fin
  refine callsD_of_wpS Try.func49 rfl fun c₀ cs hu => ?_
  apply wpS_seq
  apply wpS_region
  simp [wpOpsS, go_sem, recoverD, hu, Try.ntmps49, Exit.thenS, Fi.pan]
  apply wpS_seq
  apply wpS_region
  simp [wpOpsS, go_sem, Exit.thenS]
  refine wpS_cond (t := true) (by simp [Act.eval, Array.replicate]) ?_
  simp only [if_true]
  refine wpS_of_wp ?_
  go_region
  all_goals
    refine ⟨rfl, Fi.panned k, rfl, .tuple #[], results_none rfl _ _ _, rfl, rfl, hdr Fin.out.1, hdr Fin.out.2.1, fun B h1 h2 => (Fin.out.2.2 B h1 h2).drew⟩
set_option maxRecDepth 100000 in
set_option maxHeartbeats 2000000 in
theorem mend_nil (n : Value) (P : Pl) (A : Option Addr) (c : Nat) (kind i : Int) (w : World) (h : Nod w n) : Calls Try.prog 26 #[n, Fi.val P A c, .int .i64 kind, .int .i64 i] w fun e w' => e = .returned (.tuple #[.int .i64 0, .int .i64 4]) ∧ Below w.heap.size w w' := by
  have HS := Lib.hid (fun v (hb : Below w.heap.size w v) => both_nil n P A c kind i v (h.below hb))
  have z2 := zero_one2
  have z1 := zero_one1
  have HB0 := Lib.hid (show Below w.heap.size w (((w.alloc (.cells #[.int .i64 P.i, .int .i64 P.e, .slice A P.ps.length c] 24)).alloc (.cells #[.int .i64 0] 3)).alloc (.cells #[.int .i64 0] 26)) by repeat (first | exact Below.refl _ _ | refine Below.alloc ?_ (by simp <;> omega) _))
  have HE0 := Lib.hid (show Holds (((w.alloc (.cells #[.int .i64 P.i, .int .i64 P.e, .slice A P.ps.length c] 24)).alloc (.cells #[.int .i64 0] 3)).alloc (.cells #[.int .i64 0] 26)) (w.heap.size + 1) [.int .i64 0] by have := (Holds.new (w.alloc (.cells #[.int .i64 P.i, .int .i64 P.e, .slice A P.ps.length c] 24)) #[.int .i64 0] 3).alloc (.cells #[.int .i64 0] 26); simpa using this)
  have HF0 := Lib.hid (show Holds (((w.alloc (.cells #[.int .i64 P.i, .int .i64 P.e, .slice A P.ps.length c] 24)).alloc (.cells #[.int .i64 0] 3)).alloc (.cells #[.int .i64 0] 26)) (w.heap.size + 1 + 1) [.int .i64 0] by have := Holds.new ((w.alloc (.cells #[.int .i64 P.i, .int .i64 P.e, .slice A P.ps.length c] 24)).alloc (.cells #[.int .i64 0] 3)) #[.int .i64 0] 26; simpa using this)
  unfold Fi.val at HS ⊢
  clear h
  go_enter_defers Try.func26, Try.ntmps26
  go_wp2_with fail
  refine (HS.out _ HB0.out).mono ?_
  rintro e v2 ⟨rfl, hb⟩
  have hE := HE0.out.below hb
  have hF := HF0.out.below hb
  have hB := HB0.out.trans (hb.mono HB0.out.size)
  show Leaves _ _ _ _ _ _ _
  refine leaves_cons (f := 49) (args := #[.pointer (some ⟨w.heap.size + 1, 0, none⟩), .pointer (some ⟨w.heap.size + 1 + 1, 0, none⟩)]) (by simp) (by simp [go_sem]) ?_
  refine (catch_mend _ _ _ _ 4 _ hE hF (by omega)).mono ?_
  rintro e u' w5 ⟨rfl, rfl, i0, i1, i2⟩
  have r0 := i0.at_ 0 rfl
  have r1 := i1.at_ 0 rfl
  simp only [settle, Fi.panned]
  refine ⟨.tuple #[.int .i64 0, .int .i64 4], ?_, ?_⟩
  · simp [results, Try.results26, go_sem, r0, r1]
  · exact ⟨rfl, hB.trans (i2 _ (by omega) (by omega))⟩
end Go.Proofs.Ytakocojbpdpflaa
