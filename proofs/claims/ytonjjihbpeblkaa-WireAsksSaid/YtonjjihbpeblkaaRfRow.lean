/- The document's rows of fields: num, text, and row, which makes bytes of them. -/
import Derived.Test.YtonjjihbpeblkaaWrLaw
import Derived.Test.YtonjjihbpeblkaaRowC
namespace Go.Proofs.Ytonjjihbpeblkaa
open Go.RowKit
theorem step_appC {s : Nat} {w : World} {base n cap : Nat} {A : Option Addr} {vs : List Value} {S E : TypeId} {z : Value} {bytes : Nat} (O : Many s S E z bytes) {ops : Array Oper} {o : Oper} {a : Act} {K : Act → World → Prop} {Q : Exit → Act → World → Prop} {F : Prop} (hw : Region.wanted o (yielded ops a.tmps) = true) (d : Nat) (hd : o.dst = some d) (s1 x : Operand)
    (ho : o.op = .call { callee := .builtin .append, args := #[s1, x], argTypes := #[S, S] })
    (hs : a.eval s1 = .slice A n cap) (hown : OwnC s w base E A n cap vs) (ad : Addr) (m c : Nat) (news : List Value) (h1 : ∀ u ∈ news, u.oneCell' = true) (hx : a.eval x = .slice (some ad) m c) (hr : RdC s w (some ad) m news) (hlen : n + m ≤ 1000000) (hbase : base ≤ w.heap.size)
    (h : ∀ A' cap' w', GrewC s w w' base E A A' n cap (n + m) cap' (vs ++ news) → K (a.put (some d) (.slice A' (n + m) cap')) w') :
    if Region.wanted o (yielded ops a.tmps) = true then Oper.wp Try.prog o a w K Q else F := by
  rw [if_pos hw]
  obtain ⟨A', cap', w', hrun, hg⟩ := run_appC O hown ad m c news h1 hr hlen hbase o.type
  unfold Oper.wp execOp
  simp only [ho, resolve, invoke, builtin, Sem.run_bind, Sem.run_pure, Result.andThen_ok, List.map_toArray, List.map_cons, List.map_nil, hs, hx, hrun]
  have h2 := h A' cap' w' hg
  rw [← hd] at h2
  exact h2
set_option maxRecDepth 100000 in
theorem manyF : Many 3 61 76 (.agg #[.bool false, .int .i64 0, .string ⟨#[]⟩]) 32 := ⟨by kernel_rfl, Try.underlying61, rfl, by decide, by decide⟩
namespace Wr
/-- A field of the document's, as cells. -/
def fcells : Value → List Value
  | .int _ n => [.bool false, .int .i64 n, .string ⟨#[]⟩]
  | .string s => [.bool true, .int .i64 0, .string s]
  | _ => [.bool false, .int .i64 0, .string ⟨#[]⟩]
def flatF (vs : List Value) : List Value := vs.flatMap fcells
theorem fcells_length (v : Value) : (fcells v).length = 3 := by unfold fcells; split <;> rfl
theorem flatF_length (vs : List Value) : (flatF vs).length = vs.length * 3 := by
  induction vs with
  | nil => rfl
  | cons v vs ih => show (fcells v ++ flatF vs).length = _; rw [List.length_append, ih, fcells_length, List.length_cons]; omega
theorem flatF_append (a b : List Value) : flatF (a ++ b) = flatF a ++ flatF b := by unfold flatF; rw [List.flatMap_append]
theorem flatF_at {vs : List Value} {i j : Nat} {v u : Value} (h : vs[i]? = some v) (hj : (fcells v)[j]? = some u) : (flatF vs)[i * 3 + j]? = some u := by
  have hj3 : j < 3 := by have := (List.getElem?_eq_some_iff.1 hj).1; rw [fcells_length] at this; exact this
  induction vs generalizing i with
  | nil => simp at h
  | cons x xs ih =>
    show (fcells x ++ flatF xs)[i * 3 + j]? = _
    cases i with
    | zero =>
      simp at h
      subst h
      rw [List.getElem?_append_left (by rw [fcells_length]; omega)]
      rw [Nat.zero_mul, Nat.zero_add]
      exact hj
    | succ i =>
      simp only [List.getElem?_cons_succ] at h
      rw [List.getElem?_append_right (by rw [fcells_length]; omega), fcells_length, show (i + 1) * 3 + j - 3 = i * 3 + j by omega]
      exact ih h
theorem fcells_one (v : Value) : ∀ u ∈ fcells v, u.oneCell' = true := by
  intro u hu
  unfold fcells at hu
  split at hu <;> simp at hu <;> rcases hu with rfl | rfl | rfl <;> rfl
end Wr
/-- A slice of the document's fields. -/
def RdF (w : World) (A : Option Addr) (n : Nat) (vs : List Value) : Prop := vs.length = n ∧ RdC 3 w A n (Wr.flatF vs)
theorem RdF.below {w w' : World} {A : Option Addr} {n : Nat} {vs : List Value} (h : RdF w A n vs) (hb : Below w.heap.size w w') : RdF w' A n vs := ⟨h.1, h.2.below hb⟩
theorem RdF.at_ {w : World} {A : Option Addr} {n k : Nat} {vs : List Value} {v : Value} (h : RdF w A n vs) (hv : vs[k]? = some v) : ∃ b o, A = some ⟨b, o, none⟩ ∧ b < w.heap.size ∧ ∀ j u, (Wr.fcells v)[j]? = some u → w.cell? ⟨b, o + (k * 3 + j), none⟩ = some u := by
  have hk : k < n := by rw [← h.1]; exact (List.getElem?_eq_some_iff.1 hv).1
  obtain ⟨b, o, rfl, hb, hc⟩ := h.2.2 (by omega)
  exact ⟨b, o, rfl, hb, fun j u hu => hc _ u (Wr.flatF_at hv hu)⟩
set_option maxRecDepth 100000 in
theorem fnum_any (x : Int) (w : World) : Calls Try.prog 38 #[.int .i64 x] w fun e w' => e = .returned (.agg #[.bool false, .int .i64 x, .string ⟨#[]⟩]) ∧ Below w.heap.size w w' := by
  go_enter Try.func38, Try.ntmps38
  go_wp2
  exact ⟨rfl, .agg #[.bool false, .int .i64 x, .string ⟨#[]⟩], by simp [results, Try.results38, go_sem], rfl, (Below.refl _ _).alloc (Nat.le_refl _) _⟩
set_option maxRecDepth 100000 in
theorem ftext_any (s : ByteArray) (w : World) : Calls Try.prog 43 #[.string s] w fun e w' => e = .returned (.agg #[.bool true, .int .i64 0, .string s]) ∧ Below w.heap.size w w' := by
  go_enter Try.func43, Try.ntmps43
  go_wp2
  exact ⟨rfl, .agg #[.bool true, .int .i64 0, .string s], by simp [results, Try.results43, go_sem], rfl, (Below.refl _ _).alloc (Nat.le_refl _) _⟩
/-- Bytes and a bool, as row hands them back. -/
def GivesBool (w : World) (o : Option (List Nat)) (e : Ending) (w' : World) : Prop :=
  match o with
  | none => e = .returned (.tuple #[.slice none 0 0, .bool false]) ∧ Below w.heap.size w w'
  | some l => ∃ A c, e = .returned (.tuple #[.slice A l.length c, .bool true]) ∧ Own w' w.heap.size A l.length c l ∧ Below w.heap.size w w'
set_option maxRecDepth 100000 in
set_option maxHeartbeats 4000000 in
theorem row_any (k : Nat) (hk : k < 9223372036854775808) (A : Option Addr) (n c : Nat) (vs : List Value) (w : World) (hr : RdF w A n vs) (hn : n ≤ 10) (hf : ∀ v ∈ vs, ∃ t, Wr.fits t v) :
    Calls Try.prog 31 #[.int .i64 (k : Int), .slice A n c] w (GivesBool w ((Wr.encs vs).map (Cd.num k ++ ·))) := by
  have hw := wrap_u64_nat k (by omega)
  have hnum := Lib.hid (fun (y : Nat) (hy : y < 18446744073709551616) (wx : World) => rnum_any y hy wx)
  have htext := Lib.hid (fun (s : ByteArray) (hs : s.size ≤ 1000000) (wx : World) => rtext_any s hs wx)
  have HR := Lib.hid hr
  have HF := Lib.hid hf
  have hlen := Cd.num_length k
  clear hr hf
  go_enter Try.func31, Try.ntmps31
  go_wp2_with fail
  refine (hnum.out k (by omega) _).mono ?_
  rintro e v1 ⟨A1, c1, rfl, ho1, hb1⟩
  go_wp2_with fail
  go_loopw [6, 7] (fun b i wr => ∃ (j m d : Nat) (B : Option Addr) (r : List Nat), j ≤ n ∧ i = .int .i64 (j : Int) ∧ b = .slice B m d ∧ Hid (Wr.encs (vs.take j) = some r) ∧ m = (Cd.num k ++ r).length ∧ Own wr w.heap.size B m d (Cd.num k ++ r) ∧ Below w.heap.size w wr) (fun _ i _ => n - (intOf i).toNat)
  case atStart => exact ⟨0, _, c1, A1, [], by omega, rfl, rfl, Lib.hid rfl, by rw [List.append_nil], by rw [List.append_nil]; exact ho1, hb1⟩
  case round =>
    obtain ⟨j, m, d, B, r, hj, rfl, rfl, Hr, hm, ho, hb⟩ := hrel
    have Hm := Lib.hid hm
    have hml : m ≤ 1000000 := by
      have := Wr.encs_length Hr.out
      rw [hm, List.length_append]
      have h2 : (vs.take j).length ≤ 10 := by rw [List.length_take]; omega
      omega
    clear hm
    by_cases hjn : j = n
    · subst hjn
      have hall := Hr.out
      rw [List.take_of_length_le (by rw [HR.out.1]; omega)] at hall
      have Hall := Lib.hid hall
      clear hall
      go_wp2
      go_ret2
      rw [Hall.out]
      refine ⟨B, d, ?_, ?_, hb⟩
      · rw [← Hm.out]; rfl
      · rw [← Hm.out]; exact ho
    · have hji : (j : Int) < (n : Int) := by omega
      have hvj : vs[j]? = some (vs[j]'(by rw [HR.out.1]; omega)) := List.getElem?_eq_getElem _
      generalize vs[j]'(by rw [HR.out.1]; omega) = v at hvj
      obtain ⟨ab, ao, rfl, hab, hc⟩ := HR.out.at_ hvj
      have hfit := HF.out v (List.mem_of_getElem? hvj)
      have Hv := Lib.hid hvj
      have hbs := hb.size
      have hsn : Wr.encs (vs.take (j + 1)) = (Wr.enc v).map (r ++ ·) := by
        rw [List.take_add_one, Hv.out]
        show Wr.encs (vs.take j ++ [v]) = _
        rw [Wr.encs_snoc, Hr.out]
      obtain ⟨t, hft⟩ := hfit
      cases t with
      | false =>
        obtain ⟨x, rfl, hx⟩ := hft
        have k0 := (hb.cell (p := ⟨ab, ao + (j * 3 + 0), none⟩) hab).trans (hc 0 (.bool false) rfl)
        have k1 := (hb.cell (p := ⟨ab, ao + (j * 3 + 1), none⟩) hab).trans (hc 1 (.int .i64 x) rfl)
        rw [Nat.add_zero] at k0
        rw [← Nat.add_assoc] at k1
        clear hc hvj
        by_cases hx0 : x < 0
        · have hno : Wr.encs vs = none := Wr.encs_none Hv.out Hr.out (show Wr.encI x = none by unfold Wr.encI; rw [if_pos hx0])
          have Hno := Lib.hid hno
          clear hno hsn
          go_wp2
          go_ret2
          rw [Hno.out]
          exact ⟨rfl, hb⟩
        · obtain ⟨y, rfl⟩ := Int.eq_ofNat_of_zero_le (show 0 ≤ x by omega)
          have hwy := wrap_u64_nat y (by omega)
          have hsn2 : Wr.encs (vs.take (j + 1)) = some (r ++ Cd.num y) := by
            rw [hsn]
            show (Wr.encI (y : Int)).map _ = _
            unfold Wr.encI
            rw [if_neg hx0, Int.toNat_natCast]
            rfl
          have Hsn := Lib.hid hsn2
          have hny := Cd.num_length y
          clear hsn hsn2
          go_wp2_with fail
          refine (hnum.out y (by omega) _).mono ?_
          rintro e w2 ⟨A2, c2, rfl, ho2, hb2⟩
          have ho' := ho.below hb2
          have hb' := below_next hb hb2
          go_wp2_with (first | (at_builtin; refine wpList_appB rfl (.tmp 43) (.tmp 50) rfl rfl ho' A2 (Cd.num y).length c2 (Cd.num y) rfl ho2.rd (by omega) hb'.size ?_; intro A3 c3 w3 hg3))
          go_roundw
          case rel =>
            refine ⟨j + 1, m + (Cd.num y).length, c3, A3, r ++ Cd.num y, by omega, by go_num, rfl, Hsn, ?_, ?_, hg3.below hb' hb'.size (fun g hg => (ho'.blk g hg).1)⟩
            · rw [Hm.out]; simp only [List.length_append]; omega
            · have h3 := hg3.own
              rw [List.append_assoc] at h3
              exact h3
          case measure => simp [intOf]; omega
      | true =>
        obtain ⟨s, rfl⟩ := hft
        have k0 := (hb.cell (p := ⟨ab, ao + (j * 3 + 0), none⟩) hab).trans (hc 0 (.bool true) rfl)
        have k2 := (hb.cell (p := ⟨ab, ao + (j * 3 + 2), none⟩) hab).trans (hc 2 (.string s) rfl)
        rw [Nat.add_zero] at k0
        rw [← Nat.add_assoc] at k2
        clear hc hvj
        by_cases hx0 : 4096 < s.size
        · have hno : Wr.encs vs = none := Wr.encs_none Hv.out Hr.out (show Wr.encS s = none by unfold Wr.encS; rw [if_pos hx0])
          have Hno := Lib.hid hno
          have hx1 : (4096 : Int) < (s.size : Int) := by omega
          clear hno hsn
          go_wp2
          go_ret2
          rw [Hno.out]
          exact ⟨rfl, hb⟩
        · have hsn2 : Wr.encs (vs.take (j + 1)) = some (r ++ Cd.text s) := by
            rw [hsn]
            show (Wr.encS s).map _ = _
            unfold Wr.encS
            rw [if_neg hx0]
            rfl
          have Hsn := Lib.hid hsn2
          have hx1 : ¬ (4096 : Int) < (s.size : Int) := by omega
          have hny : (Cd.text s).length ≤ 4107 := by
            have := Cd.num_length s.size
            unfold Cd.text
            rw [List.length_append, bs_length]
            omega
          clear hsn hsn2
          go_wp2_with fail
          refine (htext.out s (by omega) _).mono ?_
          rintro e w2 ⟨A2, c2, rfl, ho2, hb2⟩
          have ho' := ho.below hb2
          have hb' := below_next hb hb2
          go_wp2_with (first | (at_builtin; refine wpList_appB rfl (.tmp 29) (.tmp 35) rfl rfl ho' A2 (Cd.text s).length c2 (Cd.text s) rfl ho2.rd (by omega) hb'.size ?_; intro A3 c3 w3 hg3))
          go_roundw
          case rel =>
            refine ⟨j + 1, m + (Cd.text s).length, c3, A3, r ++ Cd.text s, by omega, by go_num, rfl, Hsn, ?_, ?_, hg3.below hb' hb'.size (fun g hg => (ho'.blk g hg).1)⟩
            · rw [Hm.out]; simp only [List.length_append]; omega
            · have h3 := hg3.own
              rw [List.append_assoc] at h3
              exact h3
          case measure => simp [intOf]; omega
end Go.Proofs.Ytonjjihbpeblkaa
