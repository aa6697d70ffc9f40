/- What Bytes and Read hand back, plain: one form for all cases. Bytes that came in. EditBytes: the bytes of any edits, and the edits of any bytes. -/
import Derived.Test.YthfcjlndaajkfaaGreatTRbRe
import Derived.Test.YthfcjlndaajkfaaGreatTEdByte
import Derived.Test.YthfcjlndaajkfaaGreatTEdLSaE
import Derived.Test.YthfcjlndaajkfaaGreatTEdBkM
import Derived.Test.YthfcjlndaajkfaaGreatG02
import Derived.Test.YthfcjlndaajkfaaGreatTRbBytes
import Derived.Test.YthfcjlndaajkfaaGreatTEdLTa
import Derived.Test.YthfcjlndaajkfaaGreatTEdLEd
import Derived.Test.YthfcjlndaajkfaaGreatTEdPut6
import Derived.Test.YthfcjlndaajkfaaGreatTHeldS
namespace Go.Proofs.YthfcjlndaajkfaaGreat
open Go.RowKit
set_option linter.unusedVariables false
namespace Ed
/-- The bytes of edits, and what is told of them. -/
def bo (l : List Et) : List Nat × Int := if 256 < l.length then ([], 3) else if l.all Et.ok = true then (bytes l, 0) else ([], 150)
/-- The edits of bytes, and what is told of them. -/
def ro (o : Option (List Et)) : List Et × Int := match o with
  | none => ([], 150)
  | some l => (l, 0)
end Ed
theorem rd_nil (w : World) : Rd w none 0 [] := ⟨rfl, (fun x hx => (by cases hx)), fun h => absurd h (Nat.lt_irrefl 0)⟩
theorem res_nil (w : World) : RdEs w none 0 [] := (OwEs.nil w 0).rd
theorem GivesBt.plain {w w' : World} {l : List Ed.Et} {e : Ending} (h : GivesBt w l e w') : ∃ B c, e = .returned (.tuple #[.slice B (Ed.bo l).1.length c, .int .i64 (Ed.bo l).2]) ∧ Rd w' B (Ed.bo l).1.length (Ed.bo l).1 ∧ Below w.heap.size w w' := by
  obtain ⟨hb, h1, h2, h3⟩ := h
  unfold Ed.bo
  by_cases hl : 256 < l.length
  · rw [if_pos hl]
    exact ⟨none, 0, h1 hl, rd_nil _, hb⟩
  · rw [if_neg hl]
    cases ho : l.all Ed.Et.ok with
    | true =>
      rw [if_pos rfl]
      obtain ⟨B, c, he, hO⟩ := h3 (by omega) ho
      exact ⟨B, c, he, hO.rd, hb⟩
    | false =>
      rw [if_neg (by decide)]
      exact ⟨none, 0, h2 (by omega) ho, rd_nil _, hb⟩
theorem GivesRead.plain {w w' : World} {o : Option (List Ed.Et)} {e : Ending} (h : GivesRead w o e w') : ∃ R c E, e = .returned (.tuple #[.slice R E.length c, .int .i64 (Ed.ro o).2]) ∧ E.map Ed.etOf = (Ed.ro o).1 ∧ RdEs w' R E.length E ∧ Below w.heap.size w w' := by
  obtain ⟨hb, h⟩ := h
  cases o with
  | none => exact ⟨none, 0, [], h, rfl, res_nil _, hb⟩
  | some es =>
    obtain ⟨R, c, E, he, hm, hO⟩ := h
    exact ⟨R, c, E, he, hm, hO.rd, hb⟩
theorem Ed.ro_few (l : List Nat) : (Ed.ro (Ed.read l)).1.length ≤ 256 := by
  cases h : Ed.read l with
  | none => exact Nat.zero_le _
  | some es => exact (Ed.bytes_read h).2.1
end Go.Proofs.YthfcjlndaajkfaaGreat
namespace Go.Proofs.YthfcjlndaajkfaaGreat
open Go.ChangeShapes Go.WideShapes Go.ChangeAt Go.RowKit
set_option linter.unusedVariables false
set_option linter.unusedSimpArgs false
section
variable {H : Type} {enc : TypeId × Value → H} {W : World} {base : Nat} {v : Value} {d : DataW H} {p : List MemPlace}
set_option maxRecDepth 100000 in
theorem in_bytesC (hval : Value.okWide Tryz.prog W .any base 51 v) (h : Reads enc W 51 v d p) : ∃ (A : Option Addr) (n cap : Nat) (l : List Nat), v = .slice A n cap ∧ Rd W A n l ∧ n ≤ cap ∧ cap ≤ 9223372036854775807 := by
  obtain ⟨a, len, cap, rfl⟩ := okWide_slice Tryz.underlying51 hval
  obtain ⟨fuel, hf⟩ := h
  have hz : ∃ zs, IsRow .u8 W a len cap zs := by
    rcases open_ints Tryz.underlying51 Tryz.underlying5 (by kernel_rfl) hf with ⟨hcs, _⟩ | ⟨x, l, c, zs, hcs, _, hl, hm, hz, _, hcell, hwz⟩
    · simp [Value.cells] at hcs
      obtain ⟨rfl, rfl, rfl⟩ := hcs
      exact ⟨[], .inl ⟨rfl, rfl, rfl, rfl⟩⟩
    · simp [Value.cells] at hcs
      obtain ⟨rfl, rfl, rfl⟩ := hcs
      exact ⟨zs, .inr ⟨_, rfl, hl, hm, by simpa using hz, hcell, hwz⟩⟩
  obtain ⟨zs, hz⟩ := hz
  have hcap : cap ≤ 9223372036854775807 := by
    rcases hz with ⟨_, _, rfl, _⟩ | ⟨_, _, _, hm, _⟩
    · omega
    · simp only [maxLen] at hm; omega
  obtain ⟨l, hr, hc, hn⟩ := row_rd hz
  exact ⟨a, len, cap, l, rfl, hr, hc, hcap⟩
end
set_option maxRecDepth 100000 in
theorem run_toB (A : Option Addr) (n c t : Nat) (ht : t ≤ n) (hc : n ≤ c) (w : World) : (Instr.slice 51 (.slice A n c) none (some (.int .i64 (t : Int))) none).run Tryz.prog w = .ok (.slice A t c) w := by
  have h2 : t ≤ c := by omega
  simp [Instr.slice, run_underlying Tryz.underlying51, Instr.sliceBounds, Instr.sliceBound, asIntOf, go_sem, h2]
end Go.Proofs.YthfcjlndaajkfaaGreat
namespace Go.Proofs.YthfcjlndaajkfaaGreat
open Go.RowKit
set_option linter.unusedVariables false
set_option linter.unusedSimpArgs false
set_option maxRecDepth 100000 in
set_option maxHeartbeats 16000000 in
theorem ebytes_any (Q : Option Addr) (q qc : Nat) (E : List Ed.Ex) (A : Option Addr) (n c : Nat) (l : List Nat) (w : World) (hE : RdEs w Q q E) (hr : Rd w A n l) (hq : q ≤ 9223372036854775807) (hnc : n ≤ c) (hc : c ≤ 9223372036854775807) :
    Calls Tryz.prog 5 #[.slice Q q qc, .slice A n c] w fun e w' => e = .returned (.bool true) ∧ Below w.heap.size w w' := by
  have HE0 := Lib.hid hE
  have HR0 := Lib.hid hr
  obtain ⟨k, hk⟩ : ∃ k : Nat, k = min n 3000 := ⟨_, rfl⟩
  have hkn : k ≤ n := by omega
  have hk3 : k ≤ 3000 := by omega
  have hmin : min (n : Int) 3000 = (k : Int) := by omega
  clear hE hr hk
  have hbd : Below w.heap.size w w.drew := (Below.refl _ _).drew
  have hrun := fun (W : World) => run_toB A n c k hkn hnc W
  go_enter Tryz.func5, Tryz.ntmps5
  go_upto_region 1 with fail
  refine wp_region_T (fun W => True) (fun W => True) 99 (by kernel_rfl) ?_
  refine wpAnyT_take (i := 0) (v := ?_) rfl (by kernel_rfl) (by kernel_rfl) (by kernel_rfl) rfl (fun _ _ _ h => h) (Or.inl ⟨by rfl, ?_⟩) trivial (fun _ => trivial) ?_
  rotate_left
  · intro W hSW; (try dsimp only at hSW); go_simp; (try with_reducible rfl)
  try simp only [Act.put, List.setIfInBounds_toArray, List.set_cons_zero, List.set_cons_succ, List.getElem_toArray, List.getElem_cons_zero, List.getElem_cons_succ]
  refine wpAnyT_take (i := 2) (v := ?_) rfl (by kernel_rfl) (by kernel_rfl) (by kernel_rfl) rfl (fun _ _ _ h => h) (Or.inl ⟨by rfl, ?_⟩) trivial (fun _ => trivial) ?_
  rotate_left
  · intro W hSW; (try dsimp only at hSW); go_simp; (try with_reducible rfl)
  try simp only [Act.put, List.setIfInBounds_toArray, List.set_cons_zero, List.set_cons_succ, List.getElem_toArray, List.getElem_cons_zero, List.getElem_cons_succ]
  refine wpAnyT_take (i := 3) (v := ?_) rfl (by kernel_rfl) (by kernel_rfl) (by kernel_rfl) rfl (fun _ _ _ h => h) (Or.inl ⟨by rfl, ?_⟩) trivial (fun _ => trivial) ?_
  rotate_left
  · intro W hSW; (try dsimp only at hSW); go_simp; (try with_reducible rfl)
  try simp only [Act.put, List.setIfInBounds_toArray, List.set_cons_zero, List.set_cons_succ, List.getElem_toArray, List.getElem_cons_zero, List.getElem_cons_succ]
  refine wpAnyT_take (i := 4) (v := ?_) rfl (by kernel_rfl) (by kernel_rfl) (by kernel_rfl) rfl (fun _ _ _ h => h) (Or.inl ⟨by rfl, ?_⟩) trivial (fun _ => trivial) ?_
  rotate_left
  · intro W hSW; (try dsimp only at hSW); go_simp; (try with_reducible rfl)
  try simp only [Act.put, List.setIfInBounds_toArray, List.set_cons_zero, List.set_cons_succ, List.getElem_toArray, List.getElem_cons_zero, List.getElem_cons_succ]
  refine wpAnyT_take (i := 5) (v := ?_) rfl (by kernel_rfl) (by kernel_rfl) (by kernel_rfl) rfl (fun _ _ _ h => h) (Or.inl ⟨by rfl, ?_⟩) trivial (fun _ => trivial) ?_
  rotate_left
  · intro W hSW; (try dsimp only at hSW); go_simp; (try with_reducible rfl)
  try simp only [Act.put, List.setIfInBounds_toArray, List.set_cons_zero, List.set_cons_succ, List.getElem_toArray, List.getElem_cons_zero, List.getElem_cons_succ]
  refine wpAnyT_take (i := 6) (v := ?_) rfl (by kernel_rfl) (by kernel_rfl) (by kernel_rfl) rfl (fun _ _ _ h => h) (Or.inl ⟨by rfl, ?_⟩) trivial (fun _ => trivial) ?_
  rotate_left
  · intro W hSW; (try dsimp only at hSW); go_simp; (try with_reducible rfl)
  try simp only [Act.put, List.setIfInBounds_toArray, List.set_cons_zero, List.set_cons_succ, List.getElem_toArray, List.getElem_cons_zero, List.getElem_cons_succ]
  refine wpAnyT_one (i := 1) (by kernel_rfl) rfl (fun K hK => ?_)
  try simp only [Act.put, List.setIfInBounds_toArray, List.set_cons_zero, List.set_cons_succ, List.getElem_toArray, List.getElem_cons_zero, List.getElem_cons_succ]
  rw [if_pos (by rfl)]
  go_simp
  refine (ledits_any Q q qc E w.drew (HE0.out.below hbd) hq).mono ?_
  rintro e v2 ⟨Q1, qc1, rfl, hqc, he2, hb2, _⟩
  refine hK.out _ _ trivial (fun _ => trivial) ?_
  clear hK
  try simp only [Act.put, List.setIfInBounds_toArray, List.set_cons_zero, List.set_cons_succ, List.getElem_toArray, List.getElem_cons_zero, List.getElem_cons_succ]
  refine wpAnyT_take (i := 7) (v := ?_) rfl (by kernel_rfl) (by kernel_rfl) (by kernel_rfl) rfl (fun _ _ _ h => h) (Or.inl ⟨by rfl, ?_⟩) trivial (fun _ => trivial) ?_
  rotate_left
  · intro W hSW; (try dsimp only at hSW); go_simp; (try with_reducible rfl)
  try simp only [Act.put, List.setIfInBounds_toArray, List.set_cons_zero, List.set_cons_succ, List.getElem_toArray, List.getElem_cons_zero, List.getElem_cons_succ]
  refine wpAnyT_take (i := 8) (v := ?_) rfl (by kernel_rfl) (by kernel_rfl) (by kernel_rfl) rfl (fun _ _ _ h => h) (Or.inl ⟨by rfl, ?_⟩) trivial (fun _ => trivial) ?_
  rotate_left
  · intro W hSW; (try dsimp only at hSW); go_simp; (try with_reducible rfl)
  try simp only [Act.put, List.setIfInBounds_toArray, List.set_cons_zero, List.set_cons_succ, List.getElem_toArray, List.getElem_cons_zero, List.getElem_cons_succ]
  refine wpAnyT_done (by kernel_rfl) ?_ _
  have HB2 := Lib.hid (below_next hbd hb2)
  have HE2 := Lib.hid he2
  have HRb := Lib.hid (fun (W : World) (hW : Below w.heap.size w W) => (HR0.out.below hW).take hkn)
  have hq1 : min q 260 ≤ 260 := Nat.min_le_right _ _
  have hkc : k ≤ c := Nat.le_trans hkn hnc
  clear he2 hb2 hbd hrun HE0 HR0 hqc hq hnc hmin hkn
  generalize min q 260 = q1 at *
  generalize (E.take 260).map Ed.cutE = E1 at *
  generalize l.take k = lb at *
  have C2 := Lib.hid (fun (W : World) (h : RdEs W Q1 q1 E1) => (bytes_any Q1 q1 qc1 E1 W h (by omega) (fun x hx ho => putOk_any x ho)).mono fun e w' h => h.plain)
  have C3 := Lib.hid (fun (W : World) (h : RdEs W Q1 q1 E1) => (rbytes_any Q1 q1 qc1 E1 W h (by omega)).mono fun e w' h => h.plain)
  have C4 := Lib.hid (fun (W : World) (h : Rd W A k lb) => (read_any A k c lb W h hkc (by omega) hc (fun x hx ho => putOk_any x ho)).mono fun e w' h => h.plain)
  have C5 := Lib.hid (fun (W : World) (h : Rd W A k lb) => (rread_any A k c lb W h hkc (by omega) hc).mono fun e w' h => h.plain)
  rw [Ed.dRead_eq] at C5
  have HFw := Lib.hid (Ed.ro_few lb)
  generalize Ed.ro (Ed.read lb) = ro at *
  generalize Ed.bo (E1.map Ed.etOf) = bo at *
  have CA := Lib.hid (C2.out v2 HE2.out)
  clear C2 hq1 hk3
  go_wp2_with fail
  refine CA.out.mono ?_
  clear CA
  rintro e v3 ⟨B1, bc1, rfl, hx, hb3⟩
  have HB3 := Lib.hid (below_next HB2.out hb3)
  have CA := Lib.hid (C3.out v3 (HE2.out.below hb3))
  have HX3 := Lib.hid hx
  clear hx hb3 HB2 HE2 C3
  go_wp2_with fail
  refine CA.out.mono ?_
  clear CA
  rintro e v4 ⟨B2, bc2, rfl, hx, hb4⟩
  have HB4 := Lib.hid (below_next HB3.out hb4)
  have HX4 := Lib.hid (And.intro (HX3.out.below hb4) hx)
  have CA := Lib.hid (C4.out v4 (HRb.out v4 HB4.out))
  clear hx hb4 HB3 HX3 C4
  go_wp2_with fail
  refine CA.out.mono ?_
  clear CA
  rintro e v5 ⟨R1, rc1, F1, rfl, hf1, hR1, hb5⟩
  have HB5 := Lib.hid (below_next HB4.out hb5)
  have HX5 := Lib.hid (And.intro (HX4.out.1.below hb5) (HX4.out.2.below hb5))
  have HF1 := Lib.hid (And.intro hf1 hR1)
  have CA := Lib.hid (C5.out v5 (HRb.out v5 HB5.out))
  clear hf1 hR1 hb5 HB4 HX4 C5 HRb
  go_wp2_with fail
  refine CA.out.mono ?_
  clear CA
  rintro e v6 ⟨R2, rc2, F2, rfl, hf2, hR2, hb6⟩
  have HB6 := Lib.hid (below_next HB5.out hb6)
  have s1 := run_str (cap := bc1) (HX5.out.1.below hb6)
  have s2 := run_str (cap := bc2) (HX5.out.2.below hb6)
  have s3 := str_same (a := bo.1) rfl
  have q1 : ((bo.2 : Int) == bo.2) = true := by simp
  have q2 : ((ro.2 : Int) == ro.2) = true := by simp
  have CS := Lib.hid (rsameedits_yes R1 F1.length rc1 R2 F2.length rc2 F1 F2 v6 (HF1.out.2.below hb6) hR2 (HF1.out.1.trans hf2.symm) (by have h1 := congrArg List.length HF1.out.1; rw [List.length_map] at h1; have := HFw.out; omega))
  clear hf2 hR2 hb6 HB5 HX5 HF1 HFw
  generalize F1.length = n1 at *
  generalize F2.length = n2 at *
  go_wp2_with fail
  refine CS.out.mono ?_
  clear CS s1 s2 s3
  rintro e v7 ⟨rfl, hb7⟩
  have HB7 := Lib.hid (below_next HB6.out hb7)
  clear hb7 HB6
  go_wp2_with fail
  refine (awake_any _).mono ?_
  rintro e v8 ⟨rfl, hb8⟩
  have HE := Lib.hid (below_next HB7.out hb8)
  clear hb8
  go_wp2
  go_ret
  exact ⟨rfl, HE.out⟩
end Go.Proofs.YthfcjlndaajkfaaGreat
